/- Texts in one: Tr4, Tr5, Tr6, Tr7. -/
import Derived.Test.YtljlcelbhlkmcanDoorPk6
/- Chapter 6, the specification's side: paths. -/
namespace Go.Proofs.YtljlcelbhlkmcanDoor.Tr
open Go.RowKit Go.Proofs.YtljlcelbhlkmcanDoor.Mem Go.Proofs.YtljlcelbhlkmcanDoor.Laws Go.Proofs.YtljlcelbhlkmcanDoor.Bytes Go.Proofs.YtljlcelbhlkmcanDoor.Sha
set_option linter.unusedVariables false
set_option linter.unusedSimpArgs false

theorem emptyT (w : World) (lo : Nat) (h : lo ≤ w.heap.size) : Own (w.alloc (.cells #[] 9)) lo (w.alloc (.cells #[] 9)).heap.size 9 (.slice (some ⟨w.heap.size, 0, none⟩) 0 0) (ss []) :=
  Own.of (World.ownsRow_lit w #[] 0 h (Nat.zero_le _) rfl)
theorem oneT (s : ByteArray) : ∀ u ∈ [Value.string s], u.oneCell' = true := by
  intro u hu
  simp at hu
  subst hu
  rfl
theorem info9t : (Tryd.prog.info? 9).map (fun i => (i.zero, i.size, i.bytes)) = some (some (.string ⟨#[]⟩), 1, 16) := by kernel_rfl
theorem dep_le (n : Nat) : ∀ i, dep i n ≤ n := by
  refine natRec (P := fun n => ∀ i, dep i n ≤ n) ?_ n
  intro n ih i
  by_cases h : 2 ≤ n
  · have hk := half_ok h
    have hp := half_pos h
    rw [dep_if, if_pos h]
    split
    · have := ih (half n) (by omega) i; omega
    · have := ih (n - half n) (by omega) (i - half n); omega
  · rw [dep_if, if_neg h]; omega

set_option maxRecDepth 1000000 in
set_option maxHeartbeats 4000000 in
theorem path_any : ∀ (N : Nat) (l : List ByteArray), l.length ≤ N → ∀ (w : World) (v : Value) (i : Nat), Sl w v (ss l) → l.length ≤ 1000000 → i ≤ 1000000 → (∀ s ∈ l, s.size ≤ 10000000000) →
    Calls Tryd.prog 34 #[v, .int .i64 (i : Int)] w fun e w' => ∃ v', e = .returned v' ∧ Own w' w.heap.size w'.heap.size 9 v' (ss (path l i)) ∧ Below w.heap.size w w' := by
  intro N
  induction N with
  | zero =>
    intro l hN w v i h hl hi' hz
    obtain rfl : l = [] := List.eq_nil_of_length_eq_zero (by omega)
    have HN : Hid (path [] i = []) := path_no (by simp) i
    obtain ⟨ao, cap, rfl, _⟩ := h
    have HO : Hid (Own (w.alloc (.cells #[] 9)) w.heap.size (w.alloc (.cells #[] 9)).heap.size 9 (.slice (some ⟨w.heap.size, 0, none⟩) 0 0) (ss [])) := emptyT w w.heap.size (Nat.le_refl _)
    have HB : Hid (Below w.heap.size w (w.alloc (.cells #[] 9))) := (Below.refl _ _).alloc (Nat.le_refl _) _
    rw [ss_len]
    go_enter Tryd.func34, Tryd.ntmps34
    go_wp2
    go_ret
    exact ⟨_, rfl, by rw [HN.out]; exact HO.out, HB.out⟩
  | succ N ih =>
    intro l hN w v i h hl hi' hz
    by_cases h0 : l.length ≤ N
    · exact ih l h0 w v i h hl hi' hz
    obtain ⟨b, off, cap, rfl, hcap⟩ := slForm h (by rw [ss_len]; omega)
    rw [ss_len] at h hcap ⊢
    by_cases h2 : 2 ≤ l.length
    · obtain ⟨i0, hi, hz0, hz1, hz2⟩ := info_parts info9t
      have hk := half_ok h2
      have hp := half_pos h2
      have HL : Hid (∀ j, j < half l.length → path l j = path (l.take (half l.length)) j ++ [root (l.drop (half l.length))]) := fun j hj => path_low h2 hj
      have HH : Hid (∀ j, ¬ j < half l.length → path l j = path (l.drop (half l.length)) (j - half l.length) ++ [root (l.take (half l.length))]) := fun j hj => path_high h2 hj
      have q0 := half_spec w l.length (by omega)
      obtain ⟨k, hkk⟩ : ∃ k, half l.length = k := ⟨_, rfl⟩
      rw [hkk] at hk hp HL HH q0
      obtain ⟨_, hk1, hk2⟩ := hk
      clear hkk
      have s1 : Sl w (.slice (some ⟨b, off, none⟩) k cap) (ss (l.take k)) := by rw [← ss_take]; exact h.front k (by rw [ss_len]; omega)
      have s2 : Sl w (.slice (some ⟨b, off + k, none⟩) (l.length - k) (cap - k)) (ss (l.drop k)) := by rw [← ss_drop]; exact slBack h k (by rw [ss_len]; omega)
      have l1 : (l.take k).length = k := by rw [List.length_take]; omega
      have l2 : (l.drop k).length = l.length - k := by rw [List.length_drop]
      have vv : ¬ (l.length : Int) < 2 := by omega
      have v1 : (k : Int) ≤ (l.length : Int) := by omega
      have v2 : (k : Int) ≤ (cap : Int) := by omega
      have v3 : (l.length : Int) ≤ (cap : Int) := by omega
      have vne : ¬ cap = k := by omega
      have hB0 : Below w.heap.size w w := Below.refl _ _
      by_cases hik : i < k
      · have HP : Hid (path l i = path (l.take k) i ++ [root (l.drop k)]) := HL.out i hik
        have q1 : ∀ W, Below w.heap.size w W → _ := fun W hW => ih (l.take k) (by omega) W _ i (s1.later hW) (by omega) hi' (fun s hs => hz s (List.mem_of_mem_take hs))
        have q2 : ∀ W, Below w.heap.size w W → _ := fun W hW => root_any l.length (l.drop k) (by omega) W _ (s2.later hW) (by omega) (fun s hs => hz s (List.mem_of_mem_drop hs))
        have hpl := path_len (l.take k) i
        have hdl := dep_le (l.take k).length i
        obtain ⟨x, hx⟩ : ∃ x, root (l.drop k) = x := ⟨_, rfl⟩
        obtain ⟨P, hP⟩ : ∃ x, path (l.take k) i = x := ⟨_, rfl⟩
        rw [hx, hP] at HP
        rw [hP] at hpl
        simp only [hP] at q1
        simp only [hx] at q2
        have hPl : P.length ≤ 1000000 := by omega
        have c6 : (ss P).length + 1 ≤ maxLen := by rw [ss_len]; unfold maxLen; omega
        have c7 : ((ss P).length + 1) * 16 ≤ 140737488355328 := by rw [ss_len]; omega
        have hik' : (i : Int) < (k : Int) := by omega
        clear ih h hz hN h0 hx hP s1 s2 HL HH l1 l2 hpl hdl hPl hik
        go_enter Tryd.func34, Tryd.ntmps34
        go_wp2_with (go_at_call 49; refine q0.mono ?_; rintro e w1 ⟨rfl, hw1⟩; have hw1 := hw1.symm; subst hw1)
        refine wp_region_held_drew (S := fun _ => True) (by kernel_rfl) trivial (fun hHeld => ?_)
        (refine wpAnyH_take (i := 0) (v := ?v0x1) rfl (by kernel_rfl) (by kernel_rfl) (by kernel_rfl) (fun _ _ _ h => h) (Or.inl ⟨by rfl, ?hy0x1⟩) (by assumption) ?rest0x1; case hy0x1 => (intro w hSw; (try dsimp only at hSw); go_split_ands; go_simp; (try with_reducible rfl)))
        try simp only [Act.put, List.setIfInBounds_toArray, List.set_cons_zero, List.set_cons_succ, List.getElem_toArray, List.getElem_cons_zero, List.getElem_cons_succ]
        (refine wpAnyH_take (i := 1) (v := ?v1x2) rfl (by kernel_rfl) (by kernel_rfl) (by kernel_rfl) (fun _ _ _ h => h) (Or.inl ⟨by rfl, ?hy1x2⟩) (by assumption) ?rest1x2; case hy1x2 => (intro w hSw; (try dsimp only at hSw); go_split_ands; go_simp; (try with_reducible rfl)))
        try simp only [Act.put, List.setIfInBounds_toArray, List.set_cons_zero, List.set_cons_succ, List.getElem_toArray, List.getElem_cons_zero, List.getElem_cons_succ]
        (refine wpAnyH_take (i := 2) (v := ?v2x3) rfl (by kernel_rfl) (by kernel_rfl) (by kernel_rfl) (fun _ _ _ h => h) (Or.inl ⟨by rfl, ?hy2x3⟩) (by assumption) ?rest2x3; case hy2x3 => (intro w hSw; (try dsimp only at hSw); go_split_ands; go_simp; (try with_reducible rfl)))
        try simp only [Act.put, List.setIfInBounds_toArray, List.set_cons_zero, List.set_cons_succ, List.getElem_toArray, List.getElem_cons_zero, List.getElem_cons_succ]
        (refine wpAnyH_take (i := 3) (v := ?v3x4) rfl (by kernel_rfl) (by kernel_rfl) (by kernel_rfl) (fun _ _ _ h => h) (Or.inl ⟨by rfl, ?hy3x4⟩) (by assumption) ?rest3x4; case hy3x4 => (intro w hSw; (try dsimp only at hSw); go_split_ands; go_simp; (try with_reducible rfl)))
        try simp only [Act.put, List.setIfInBounds_toArray, List.set_cons_zero, List.set_cons_succ, List.getElem_toArray, List.getElem_cons_zero, List.getElem_cons_succ]
        (refine wpAnyH_take (i := 5) (v := ?v5x5) rfl (by kernel_rfl) (by kernel_rfl) (by kernel_rfl) (fun _ _ _ h => h) (Or.inl ⟨by rfl, ?hy5x5⟩) (by assumption) ?rest5x5; case hy5x5 => (intro w hSw; (try dsimp only at hSw); go_split_ands; go_simp; (try with_reducible rfl)))
        try simp only [Act.put, List.setIfInBounds_toArray, List.set_cons_zero, List.set_cons_succ, List.getElem_toArray, List.getElem_cons_zero, List.getElem_cons_succ]
        (refine wpAnyH_take (i := 6) (v := ?v6x6) rfl (by kernel_rfl) (by kernel_rfl) (by kernel_rfl) (fun _ _ _ h => h) (Or.inl ⟨by rfl, ?hy6x6⟩) (by assumption) ?rest6x6; case hy6x6 => (intro w hSw; (try dsimp only at hSw); go_split_ands; go_simp; (try with_reducible rfl)))
        try simp only [Act.put, List.setIfInBounds_toArray, List.set_cons_zero, List.set_cons_succ, List.getElem_toArray, List.getElem_cons_zero, List.getElem_cons_succ]
        (refine wpAnyH_take (i := 7) (v := ?v7x7) rfl (by kernel_rfl) (by kernel_rfl) (by kernel_rfl) (fun _ _ _ h => h) (Or.inl ⟨by rfl, ?hy7x7⟩) (by assumption) ?rest7x7; case hy7x7 => (intro w hSw; (try dsimp only at hSw); go_split_ands; go_simp; (try with_reducible rfl)))
        try simp only [Act.put, List.setIfInBounds_toArray, List.set_cons_zero, List.set_cons_succ, List.getElem_toArray, List.getElem_cons_zero, List.getElem_cons_succ]
        refine wpAnyH_ready (rs := [4]) (by kernel_rfl) (by simp) ?_
        refine AllReadyH.cons rfl (fun K hK => ?_) AllReadyH.nil
        go_simp
        refine (q1 _ (Below.drew hB0)).mono ?_
        rintro e w2 ⟨v2, rfl, ho2, b2⟩
        refine hK.out _ _ trivial (fun hHeld => ?_)
        clear hK K
        try simp only [Act.put, List.setIfInBounds_toArray, List.set_cons_zero, List.set_cons_succ, List.getElem_toArray, List.getElem_cons_zero, List.getElem_cons_succ]
        have B2 : Below w.heap.size w w2 := (Below.drew hB0).trans b2
        refine wpAnyH_ready (rs := [8]) (by kernel_rfl) (by simp) ?_
        refine AllReadyH.cons rfl (fun K hK => ?_) AllReadyH.nil
        go_simp
        refine (q2 _ B2).mono ?_
        rintro e w3 ⟨rfl, b3⟩
        refine hK.out _ _ trivial (fun hHeld => ?_)
        clear hK K
        try simp only [Act.put, List.setIfInBounds_toArray, List.set_cons_zero, List.set_cons_succ, List.getElem_toArray, List.getElem_cons_zero, List.getElem_cons_succ]
        have B3 : Below w.heap.size w w3 := B2.trans (b3.mono B2.size)
        have ho4 : ∀ o, Own (w3.alloc o) w.heap.size (w3.alloc o).heap.size 9 v2 (ss P) := fun o => Own.alloc ((Own.later ho2 b3 (Nat.le_refl _)).mono (Nat.le_refl _) b3.size) o
        have c8 : ∀ o, w.heap.size ≤ (w3.alloc o).heap.size := fun o => by have := B3.size; simp; omega
        refine wpAnyH_ready (rs := [9]) (by kernel_rfl) (by simp) ?_
        refine AllReadyH.cons rfl (fun K hK => ?_) AllReadyH.nil
        go_simp
        refine hK.out _ _ trivial (fun hHeld => ?_)
        clear hK K
        try simp only [Act.put, List.setIfInBounds_toArray, List.set_cons_zero, List.set_cons_succ, List.getElem_toArray, List.getElem_cons_zero, List.getElem_cons_succ]
        refine wpAnyH_ready (rs := [10]) (by kernel_rfl) (by simp) ?_
        refine AllReadyH.cons rfl (fun K hK => ?_) AllReadyH.nil
        refine step_app (by rfl) (.tmp 20) (.tmp 25) 24 (by rfl) 9 i0 (.string ⟨#[]⟩) 16 Tryd.underlying24 hi hz0 hz1 hz2 rfl w.heap.size _ _ (by rfl) (ho4 _) _ (by rfl) _ (Laws.Sl.one _ _ _) (oneT _) c6 c7 (c8 _) ?_
        intro v5 w5 ho5 hb5
        refine hK.out _ _ trivial (fun hHeld => ?_)
        clear hK K
        try simp only [Act.put, List.setIfInBounds_toArray, List.set_cons_zero, List.set_cons_succ, List.getElem_toArray, List.getElem_cons_zero, List.getElem_cons_succ]
        have B5 : Below w.heap.size w w5 := (B3.alloc B3.size _).trans hb5
        have ho6 : Own w5 w.heap.size w5.heap.size 9 v5 (ss (P ++ [x])) := by rw [ss_app]; exact ho5
        (refine wpAnyH_take (i := 11) (v := ?v11x8) rfl (by kernel_rfl) (by kernel_rfl) (by kernel_rfl) (fun _ _ _ h => h) (Or.inl ⟨by rfl, ?hy11x8⟩) (by assumption) ?rest11x8; case hy11x8 => (intro w hSw; (try dsimp only at hSw); go_split_ands; go_simp; (try with_reducible rfl)))
        try simp only [Act.put, List.setIfInBounds_toArray, List.set_cons_zero, List.set_cons_succ, List.getElem_toArray, List.getElem_cons_zero, List.getElem_cons_succ]
        refine wpAnyH_done (by kernel_rfl) ?_ _
        clear hHeld
        go_wp2
        go_ret
        exact ⟨v5, rfl, by rw [HP.out]; exact ho6, B5⟩
      · have HP : Hid (path l i = path (l.drop k) (i - k) ++ [root (l.take k)]) := HH.out i hik
        have q1 : ∀ W, Below w.heap.size w W → _ := fun W hW => ih (l.drop k) (by omega) W _ (i - k) (s2.later hW) (by omega) (by omega) (fun s hs => hz s (List.mem_of_mem_drop hs))
        have q2 : ∀ W, Below w.heap.size w W → _ := fun W hW => root_any l.length (l.take k) (by omega) W _ (s1.later hW) (by omega) (fun s hs => hz s (List.mem_of_mem_take hs))
        have hpl := path_len (l.drop k) (i - k)
        have hdl := dep_le (l.drop k).length (i - k)
        obtain ⟨x, hx⟩ : ∃ x, root (l.take k) = x := ⟨_, rfl⟩
        obtain ⟨P, hP⟩ : ∃ x, path (l.drop k) (i - k) = x := ⟨_, rfl⟩
        rw [hx, hP] at HP
        rw [hP] at hpl
        simp only [hP] at q1
        simp only [hx] at q2
        have hPl : P.length ≤ 1000000 := by omega
        have c6 : (ss P).length + 1 ≤ maxLen := by rw [ss_len]; unfold maxLen; omega
        have c7 : ((ss P).length + 1) * 16 ≤ 140737488355328 := by rw [ss_len]; omega
        have hik' : ¬ (i : Int) < (k : Int) := by omega
        have hwr : IntKind.i64.wrap ((i : Int) - (k : Int)) = ((i - k : Nat) : Int) := by rw [IntKind.wrap_i64]; omega
        clear ih h hz hN h0 hx hP s1 s2 HL HH l1 l2 hpl hdl hPl hik
        go_enter Tryd.func34, Tryd.ntmps34
        go_wp2_with (go_at_call 49; refine q0.mono ?_; rintro e w1 ⟨rfl, hw1⟩; have hw1 := hw1.symm; subst hw1)
        refine wp_region_held_drew (S := fun _ => True) (by kernel_rfl) trivial (fun hHeld => ?_)
        (refine wpAnyH_take (i := 0) (v := ?v0x9) rfl (by kernel_rfl) (by kernel_rfl) (by kernel_rfl) (fun _ _ _ h => h) (Or.inl ⟨by rfl, ?hy0x9⟩) (by assumption) ?rest0x9; case hy0x9 => (intro w hSw; (try dsimp only at hSw); go_split_ands; go_simp; (try with_reducible rfl)))
        try simp only [Act.put, List.setIfInBounds_toArray, List.set_cons_zero, List.set_cons_succ, List.getElem_toArray, List.getElem_cons_zero, List.getElem_cons_succ]
        (refine wpAnyH_take (i := 1) (v := ?v1x10) rfl (by kernel_rfl) (by kernel_rfl) (by kernel_rfl) (fun _ _ _ h => h) (Or.inl ⟨by rfl, ?hy1x10⟩) (by assumption) ?rest1x10; case hy1x10 => (intro w hSw; (try dsimp only at hSw); go_split_ands; go_simp; (try with_reducible rfl)))
        try simp only [Act.put, List.setIfInBounds_toArray, List.set_cons_zero, List.set_cons_succ, List.getElem_toArray, List.getElem_cons_zero, List.getElem_cons_succ]
        (refine wpAnyH_take (i := 2) (v := ?v2x11) rfl (by kernel_rfl) (by kernel_rfl) (by kernel_rfl) (fun _ _ _ h => h) (Or.inl ⟨by rfl, ?hy2x11⟩) (by assumption) ?rest2x11; case hy2x11 => (intro w hSw; (try dsimp only at hSw); go_split_ands; go_simp; (try with_reducible rfl)))
        try simp only [Act.put, List.setIfInBounds_toArray, List.set_cons_zero, List.set_cons_succ, List.getElem_toArray, List.getElem_cons_zero, List.getElem_cons_succ]
        (refine wpAnyH_take (i := 3) (v := ?v3x12) rfl (by kernel_rfl) (by kernel_rfl) (by kernel_rfl) (fun _ _ _ h => h) (Or.inl ⟨by rfl, ?hy3x12⟩) (by assumption) ?rest3x12; case hy3x12 => (intro w hSw; (try dsimp only at hSw); go_split_ands; go_simp; (try with_reducible rfl)))
        try simp only [Act.put, List.setIfInBounds_toArray, List.set_cons_zero, List.set_cons_succ, List.getElem_toArray, List.getElem_cons_zero, List.getElem_cons_succ]
        (refine wpAnyH_take (i := 4) (v := ?v4x13) rfl (by kernel_rfl) (by kernel_rfl) (by kernel_rfl) (fun _ _ _ h => h) (Or.inl ⟨by rfl, ?hy4x13⟩) (by assumption) ?rest4x13; case hy4x13 => (intro w hSw; (try dsimp only at hSw); go_split_ands; go_simp; (try with_reducible rfl)))
        try simp only [Act.put, List.setIfInBounds_toArray, List.set_cons_zero, List.set_cons_succ, List.getElem_toArray, List.getElem_cons_zero, List.getElem_cons_succ]
        (refine wpAnyH_take (i := 5) (v := ?v5x14) rfl (by kernel_rfl) (by kernel_rfl) (by kernel_rfl) (fun _ _ _ h => h) (Or.inl ⟨by rfl, ?hy5x14⟩) (by assumption) ?rest5x14; case hy5x14 => (intro w hSw; (try dsimp only at hSw); go_split_ands; go_simp; (try with_reducible rfl)))
        try simp only [Act.put, List.setIfInBounds_toArray, List.set_cons_zero, List.set_cons_succ, List.getElem_toArray, List.getElem_cons_zero, List.getElem_cons_succ]
        (refine wpAnyH_take (i := 7) (v := ?v7x15) rfl (by kernel_rfl) (by kernel_rfl) (by kernel_rfl) (fun _ _ _ h => h) (Or.inl ⟨by rfl, ?hy7x15⟩) (by assumption) ?rest7x15; case hy7x15 => (intro w hSw; (try dsimp only at hSw); go_split_ands; go_simp; (try with_reducible rfl)))
        try simp only [Act.put, List.setIfInBounds_toArray, List.set_cons_zero, List.set_cons_succ, List.getElem_toArray, List.getElem_cons_zero, List.getElem_cons_succ]
        (refine wpAnyH_take (i := 8) (v := ?v8x16) rfl (by kernel_rfl) (by kernel_rfl) (by kernel_rfl) (fun _ _ _ h => h) (Or.inl ⟨by rfl, ?hy8x16⟩) (by assumption) ?rest8x16; case hy8x16 => (intro w hSw; (try dsimp only at hSw); go_split_ands; go_simp; (try with_reducible rfl)))
        try simp only [Act.put, List.setIfInBounds_toArray, List.set_cons_zero, List.set_cons_succ, List.getElem_toArray, List.getElem_cons_zero, List.getElem_cons_succ]
        (refine wpAnyH_take (i := 9) (v := ?v9x17) rfl (by kernel_rfl) (by kernel_rfl) (by kernel_rfl) (fun _ _ _ h => h) (Or.inl ⟨by rfl, ?hy9x17⟩) (by assumption) ?rest9x17; case hy9x17 => (intro w hSw; (try dsimp only at hSw); go_split_ands; go_simp; (try with_reducible rfl)))
        try simp only [Act.put, List.setIfInBounds_toArray, List.set_cons_zero, List.set_cons_succ, List.getElem_toArray, List.getElem_cons_zero, List.getElem_cons_succ]
        refine wpAnyH_ready (rs := [6]) (by kernel_rfl) (by simp) ?_
        refine AllReadyH.cons rfl (fun K hK => ?_) AllReadyH.nil
        go_simp
        refine (q1 _ (Below.drew hB0)).mono ?_
        rintro e w2 ⟨v2, rfl, ho2, b2⟩
        refine hK.out _ _ trivial (fun hHeld => ?_)
        clear hK K
        try simp only [Act.put, List.setIfInBounds_toArray, List.set_cons_zero, List.set_cons_succ, List.getElem_toArray, List.getElem_cons_zero, List.getElem_cons_succ]
        have B2 : Below w.heap.size w w2 := (Below.drew hB0).trans b2
        refine wpAnyH_ready (rs := [10]) (by kernel_rfl) (by simp) ?_
        refine AllReadyH.cons rfl (fun K hK => ?_) AllReadyH.nil
        go_simp
        refine (q2 _ B2).mono ?_
        rintro e w3 ⟨rfl, b3⟩
        refine hK.out _ _ trivial (fun hHeld => ?_)
        clear hK K
        try simp only [Act.put, List.setIfInBounds_toArray, List.set_cons_zero, List.set_cons_succ, List.getElem_toArray, List.getElem_cons_zero, List.getElem_cons_succ]
        have B3 : Below w.heap.size w w3 := B2.trans (b3.mono B2.size)
        have ho4 : ∀ o, Own (w3.alloc o) w.heap.size (w3.alloc o).heap.size 9 v2 (ss P) := fun o => Own.alloc ((Own.later ho2 b3 (Nat.le_refl _)).mono (Nat.le_refl _) b3.size) o
        have c8 : ∀ o, w.heap.size ≤ (w3.alloc o).heap.size := fun o => by have := B3.size; simp; omega
        refine wpAnyH_ready (rs := [11]) (by kernel_rfl) (by simp) ?_
        refine AllReadyH.cons rfl (fun K hK => ?_) AllReadyH.nil
        go_simp
        refine hK.out _ _ trivial (fun hHeld => ?_)
        clear hK K
        try simp only [Act.put, List.setIfInBounds_toArray, List.set_cons_zero, List.set_cons_succ, List.getElem_toArray, List.getElem_cons_zero, List.getElem_cons_succ]
        refine wpAnyH_ready (rs := [12]) (by kernel_rfl) (by simp) ?_
        refine AllReadyH.cons rfl (fun K hK => ?_) AllReadyH.nil
        refine step_app (by rfl) (.tmp 33) (.tmp 38) 24 (by rfl) 9 i0 (.string ⟨#[]⟩) 16 Tryd.underlying24 hi hz0 hz1 hz2 rfl w.heap.size _ _ (by rfl) (ho4 _) _ (by rfl) _ (Laws.Sl.one _ _ _) (oneT _) c6 c7 (c8 _) ?_
        intro v5 w5 ho5 hb5
        refine hK.out _ _ trivial (fun hHeld => ?_)
        clear hK K
        try simp only [Act.put, List.setIfInBounds_toArray, List.set_cons_zero, List.set_cons_succ, List.getElem_toArray, List.getElem_cons_zero, List.getElem_cons_succ]
        have B5 : Below w.heap.size w w5 := (B3.alloc B3.size _).trans hb5
        have ho6 : Own w5 w.heap.size w5.heap.size 9 v5 (ss (P ++ [x])) := by rw [ss_app]; exact ho5
        (refine wpAnyH_take (i := 13) (v := ?v13x18) rfl (by kernel_rfl) (by kernel_rfl) (by kernel_rfl) (fun _ _ _ h => h) (Or.inl ⟨by rfl, ?hy13x18⟩) (by assumption) ?rest13x18; case hy13x18 => (intro w hSw; (try dsimp only at hSw); go_split_ands; go_simp; (try with_reducible rfl)))
        try simp only [Act.put, List.setIfInBounds_toArray, List.set_cons_zero, List.set_cons_succ, List.getElem_toArray, List.getElem_cons_zero, List.getElem_cons_succ]
        refine wpAnyH_done (by kernel_rfl) ?_ _
        clear hHeld
        go_wp2
        go_ret
        exact ⟨v5, rfl, by rw [HP.out]; exact ho6, B5⟩
    · have HN : Hid (path l i = []) := path_no h2 i
      have HO : Hid (Own (w.alloc (.cells #[] 9)) w.heap.size (w.alloc (.cells #[] 9)).heap.size 9 (.slice (some ⟨w.heap.size, 0, none⟩) 0 0) (ss [])) := emptyT w w.heap.size (Nat.le_refl _)
      have HB : Hid (Below w.heap.size w (w.alloc (.cells #[] 9))) := (Below.refl _ _).alloc (Nat.le_refl _) _
      have vv : (l.length : Int) < 2 := by omega
      clear ih h hz
      go_enter Tryd.func34, Tryd.ntmps34
      go_wp2
      go_ret
      exact ⟨_, rfl, by rw [HN.out]; exact HO.out, HB.out⟩

end Go.Proofs.YtljlcelbhlkmcanDoor.Tr

/- Chapter 6, the specification's side: what tells that a list came of its beginning. -/
namespace Go.Proofs.YtljlcelbhlkmcanDoor.Tr
open Go.RowKit Go.Proofs.YtljlcelbhlkmcanDoor.Mem Go.Proofs.YtljlcelbhlkmcanDoor.Laws Go.Proofs.YtljlcelbhlkmcanDoor.Bytes Go.Proofs.YtljlcelbhlkmcanDoor.Sha
set_option linter.unusedVariables false
set_option linter.unusedSimpArgs false

theorem oneS (w : World) (lo : Nat) (x : ByteArray) (h : lo ≤ w.heap.size) : Own (w.alloc (.cells #[.string x] 9)) lo (w.alloc (.cells #[.string x] 9)).heap.size 9 (.slice (some ⟨w.heap.size, 0, none⟩) 1 1) (ss [x]) := by
  exact Own.of (World.ownsRow_lit (e := 9) (base := lo) (size := 1) w #[.string x] 1 h (by unfold maxLen; omega) rfl)
theorem gdep_le (m : Nat) : ∀ n whole, gdep n m whole ≤ m + 1 := by
  refine natRec (P := fun m => ∀ n whole, gdep n m whole ≤ m + 1) ?_ m
  intro m ih n whole
  rw [gdep_if]
  split
  · split <;> omega
  · split
    · rename_i h
      have hk := half_ok h
      have hp := half_pos h
      split
      · have := ih (half m) (by omega) n whole; omega
      · have := ih (m - half m) (by omega) (n - half m) false; omega
    · omega

set_option maxRecDepth 1000000 in
set_option maxHeartbeats 4000000 in
theorem grow_any : ∀ (N : Nat) (l : List ByteArray), l.length ≤ N → ∀ (w : World) (v : Value) (n : Nat) (whole : Bool), Sl w v (ss l) → l.length ≤ 1000000 → 1 ≤ n → n ≤ l.length → (∀ s ∈ l, s.size ≤ 10000000000) →
    Calls Tryd.prog 42 #[v, .int .i64 (n : Int), .bool whole] w fun e w' => ∃ v', e = .returned v' ∧ Own w' w.heap.size w'.heap.size 9 v' (ss (grow l n whole)) ∧ Below w.heap.size w w' := by
  intro N
  induction N with
  | zero => intro l hN w v n whole h hl h1 hnl hz; omega
  | succ N ih =>
    intro l hN w v n whole h hl h1 hnl hz
    by_cases h0 : l.length ≤ N
    · exact ih l h0 w v n whole h hl h1 hnl hz
    obtain ⟨b, off, cap, rfl, hcap⟩ := slForm h (by rw [ss_len]; omega)
    rw [ss_len] at h hcap ⊢
    by_cases he : n = l.length
    · have HN : Hid (grow l n whole = if whole = true then [] else [root l]) := by show _ = _; rw [he]; exact grow_all l whole
      have dd : ((n : Int) == (l.length : Int)) = true := by rw [beq_iff_eq]; omega
      cases whole
      · have HG : Hid (grow l n false = [root l]) := by show _ = _; rw [HN.out]; rfl
        have q := root_any l.length l (Nat.le_refl _) w _ h hl hz
        obtain ⟨x, hx⟩ : ∃ x, root l = x := ⟨_, rfl⟩
        rw [hx] at q HG
        clear ih h hz hx HN he
        go_enter Tryd.func42, Tryd.ntmps42
        go_wp2_with fail
        refine q.mono ?_
        rintro e w1 ⟨rfl, b1⟩
        have HO : Hid (Own (w1.alloc (.cells #[.string x] 9)) w.heap.size (w1.alloc (.cells #[.string x] 9)).heap.size 9 (.slice (some ⟨w1.heap.size, 0, none⟩) 1 1) (ss [x])) := oneS w1 w.heap.size x b1.size
        have HB : Hid (Below w.heap.size w (w1.alloc (.cells #[.string x] 9))) := b1.alloc b1.size _
        clear q b1
        go_wp2
        go_ret
        exact ⟨_, rfl, by rw [HG.out]; exact HO.out, HB.out⟩
      · have HG : Hid (grow l n true = []) := by show _ = _; rw [HN.out]; rfl
        have HO : Hid (Own (w.alloc (.cells #[] 9)) w.heap.size (w.alloc (.cells #[] 9)).heap.size 9 (.slice (some ⟨w.heap.size, 0, none⟩) 0 0) (ss [])) := emptyT w w.heap.size (Nat.le_refl _)
        have HB : Hid (Below w.heap.size w (w.alloc (.cells #[] 9))) := (Below.refl _ _).alloc (Nat.le_refl _) _
        clear ih h hz HN he
        go_enter Tryd.func42, Tryd.ntmps42
        go_wp2
        go_ret
        exact ⟨_, rfl, by rw [HG.out]; exact HO.out, HB.out⟩
    · have h2 : 2 ≤ l.length := by omega
      have dd : ((n : Int) == (l.length : Int)) = false := by rw [beq_eq_false_iff_ne]; omega
      obtain ⟨i0, hi, hz0, hz1, hz2⟩ := info_parts info9t
      have hk := half_ok h2
      have hp := half_pos h2
      have HL : Hid (n ≤ half l.length → grow l n whole = grow (l.take (half l.length)) n whole ++ [root (l.drop (half l.length))]) := fun hj => grow_low h2 he hj whole
      have HH : Hid (¬ n ≤ half l.length → grow l n whole = grow (l.drop (half l.length)) (n - half l.length) false ++ [root (l.take (half l.length))]) := fun hj => grow_high h2 he hj whole
      have q0 := half_spec w l.length (by omega)
      obtain ⟨k, hkk⟩ : ∃ k, half l.length = k := ⟨_, rfl⟩
      rw [hkk] at hk hp HL HH q0
      obtain ⟨_, hk1, hk2⟩ := hk
      clear hkk
      have s1 : Sl w (.slice (some ⟨b, off, none⟩) k cap) (ss (l.take k)) := by rw [← ss_take]; exact h.front k (by rw [ss_len]; omega)
      have s2 : Sl w (.slice (some ⟨b, off + k, none⟩) (l.length - k) (cap - k)) (ss (l.drop k)) := by rw [← ss_drop]; exact slBack h k (by rw [ss_len]; omega)
      have l1 : (l.take k).length = k := by rw [List.length_take]; omega
      have l2 : (l.drop k).length = l.length - k := by rw [List.length_drop]
      have v1 : (k : Int) ≤ (l.length : Int) := by omega
      have v2 : (k : Int) ≤ (cap : Int) := by omega
      have v3 : (l.length : Int) ≤ (cap : Int) := by omega
      have vne : ¬ cap = k := by omega
      have hB0 : Below w.heap.size w w := Below.refl _ _
      by_cases hik : n ≤ k
      · have HP : Hid (grow l n whole = grow (l.take k) n whole ++ [root (l.drop k)]) := HL.out hik
        have q1 : ∀ W, Below w.heap.size w W → _ := fun W hW => ih (l.take k) (by omega) W _ n whole (s1.later hW) (by omega) h1 (by omega) (fun s hs => hz s (List.mem_of_mem_take hs))
        have q2 : ∀ W, Below w.heap.size w W → _ := fun W hW => root_any l.length (l.drop k) (by omega) W _ (s2.later hW) (by omega) (fun s hs => hz s (List.mem_of_mem_drop hs))
        have hpl := grow_len (l.take k) n whole
        have hdl := gdep_le (l.take k).length n whole
        obtain ⟨x, hx⟩ : ∃ x, root (l.drop k) = x := ⟨_, rfl⟩
        obtain ⟨P, hP⟩ : ∃ x, grow (l.take k) n whole = x := ⟨_, rfl⟩
        rw [hx, hP] at HP
        rw [hP] at hpl
        simp only [hP] at q1
        simp only [hx] at q2
        have hPl : P.length ≤ 1000001 := by omega
        have c6 : (ss P).length + 1 ≤ maxLen := by rw [ss_len]; unfold maxLen; omega
        have c7 : ((ss P).length + 1) * 16 ≤ 140737488355328 := by rw [ss_len]; omega
        have hik' : (n : Int) ≤ (k : Int) := by omega
        clear ih h hz hN h0 hx hP s1 s2 HL HH l1 l2 hpl hdl hPl hik he
        go_enter Tryd.func42, Tryd.ntmps42
        go_wp2_with (go_at_call 49; refine q0.mono ?_; rintro e w1 ⟨rfl, hw1⟩; have hw1 := hw1.symm; subst hw1)
        refine wp_region_held_drew (S := fun _ => True) (by kernel_rfl) trivial (fun hHeld => ?_)
        (refine wpAnyH_take (i := 0) (v := ?v0x1) rfl (by kernel_rfl) (by kernel_rfl) (by kernel_rfl) (fun _ _ _ h => h) (Or.inl ⟨by rfl, ?hy0x1⟩) (by assumption) ?rest0x1; case hy0x1 => (intro w hSw; (try dsimp only at hSw); go_split_ands; go_simp; (try with_reducible rfl)))
        try simp only [Act.put, List.setIfInBounds_toArray, List.set_cons_zero, List.set_cons_succ, List.getElem_toArray, List.getElem_cons_zero, List.getElem_cons_succ]
        (refine wpAnyH_take (i := 1) (v := ?v1x2) rfl (by kernel_rfl) (by kernel_rfl) (by kernel_rfl) (fun _ _ _ h => h) (Or.inl ⟨by rfl, ?hy1x2⟩) (by assumption) ?rest1x2; case hy1x2 => (intro w hSw; (try dsimp only at hSw); go_split_ands; go_simp; (try with_reducible rfl)))
        try simp only [Act.put, List.setIfInBounds_toArray, List.set_cons_zero, List.set_cons_succ, List.getElem_toArray, List.getElem_cons_zero, List.getElem_cons_succ]
        (refine wpAnyH_take (i := 2) (v := ?v2x3) rfl (by kernel_rfl) (by kernel_rfl) (by kernel_rfl) (fun _ _ _ h => h) (Or.inl ⟨by rfl, ?hy2x3⟩) (by assumption) ?rest2x3; case hy2x3 => (intro w hSw; (try dsimp only at hSw); go_split_ands; go_simp; (try with_reducible rfl)))
        try simp only [Act.put, List.setIfInBounds_toArray, List.set_cons_zero, List.set_cons_succ, List.getElem_toArray, List.getElem_cons_zero, List.getElem_cons_succ]
        (refine wpAnyH_take (i := 3) (v := ?v3x4) rfl (by kernel_rfl) (by kernel_rfl) (by kernel_rfl) (fun _ _ _ h => h) (Or.inl ⟨by rfl, ?hy3x4⟩) (by assumption) ?rest3x4; case hy3x4 => (intro w hSw; (try dsimp only at hSw); go_split_ands; go_simp; (try with_reducible rfl)))
        try simp only [Act.put, List.setIfInBounds_toArray, List.set_cons_zero, List.set_cons_succ, List.getElem_toArray, List.getElem_cons_zero, List.getElem_cons_succ]
        (refine wpAnyH_take (i := 4) (v := ?v4x5) rfl (by kernel_rfl) (by kernel_rfl) (by kernel_rfl) (fun _ _ _ h => h) (Or.inl ⟨by rfl, ?hy4x5⟩) (by assumption) ?rest4x5; case hy4x5 => (intro w hSw; (try dsimp only at hSw); go_split_ands; go_simp; (try with_reducible rfl)))
        try simp only [Act.put, List.setIfInBounds_toArray, List.set_cons_zero, List.set_cons_succ, List.getElem_toArray, List.getElem_cons_zero, List.getElem_cons_succ]
        (refine wpAnyH_take (i := 6) (v := ?v6x6) rfl (by kernel_rfl) (by kernel_rfl) (by kernel_rfl) (fun _ _ _ h => h) (Or.inl ⟨by rfl, ?hy6x6⟩) (by assumption) ?rest6x6; case hy6x6 => (intro w hSw; (try dsimp only at hSw); go_split_ands; go_simp; (try with_reducible rfl)))
        try simp only [Act.put, List.setIfInBounds_toArray, List.set_cons_zero, List.set_cons_succ, List.getElem_toArray, List.getElem_cons_zero, List.getElem_cons_succ]
        (refine wpAnyH_take (i := 7) (v := ?v7x7) rfl (by kernel_rfl) (by kernel_rfl) (by kernel_rfl) (fun _ _ _ h => h) (Or.inl ⟨by rfl, ?hy7x7⟩) (by assumption) ?rest7x7; case hy7x7 => (intro w hSw; (try dsimp only at hSw); go_split_ands; go_simp; (try with_reducible rfl)))
        try simp only [Act.put, List.setIfInBounds_toArray, List.set_cons_zero, List.set_cons_succ, List.getElem_toArray, List.getElem_cons_zero, List.getElem_cons_succ]
        (refine wpAnyH_take (i := 8) (v := ?v8x8) rfl (by kernel_rfl) (by kernel_rfl) (by kernel_rfl) (fun _ _ _ h => h) (Or.inl ⟨by rfl, ?hy8x8⟩) (by assumption) ?rest8x8; case hy8x8 => (intro w hSw; (try dsimp only at hSw); go_split_ands; go_simp; (try with_reducible rfl)))
        try simp only [Act.put, List.setIfInBounds_toArray, List.set_cons_zero, List.set_cons_succ, List.getElem_toArray, List.getElem_cons_zero, List.getElem_cons_succ]
        refine wpAnyH_ready (rs := [5]) (by kernel_rfl) (by simp) ?_
        refine AllReadyH.cons rfl (fun K hK => ?_) AllReadyH.nil
        go_simp
        refine (q1 _ (Below.drew hB0)).mono ?_
        rintro e w2 ⟨v2, rfl, ho2, b2⟩
        refine hK.out _ _ trivial (fun hHeld => ?_)
        clear hK K
        try simp only [Act.put, List.setIfInBounds_toArray, List.set_cons_zero, List.set_cons_succ, List.getElem_toArray, List.getElem_cons_zero, List.getElem_cons_succ]
        have B2 : Below w.heap.size w w2 := (Below.drew hB0).trans b2
        refine wpAnyH_ready (rs := [9]) (by kernel_rfl) (by simp) ?_
        refine AllReadyH.cons rfl (fun K hK => ?_) AllReadyH.nil
        go_simp
        refine (q2 _ B2).mono ?_
        rintro e w3 ⟨rfl, b3⟩
        refine hK.out _ _ trivial (fun hHeld => ?_)
        clear hK K
        try simp only [Act.put, List.setIfInBounds_toArray, List.set_cons_zero, List.set_cons_succ, List.getElem_toArray, List.getElem_cons_zero, List.getElem_cons_succ]
        have B3 : Below w.heap.size w w3 := B2.trans (b3.mono B2.size)
        have ho4 : ∀ o, Own (w3.alloc o) w.heap.size (w3.alloc o).heap.size 9 v2 (ss P) := fun o => Own.alloc ((Own.later ho2 b3 (Nat.le_refl _)).mono (Nat.le_refl _) b3.size) o
        have c8 : ∀ o, w.heap.size ≤ (w3.alloc o).heap.size := fun o => by have := B3.size; simp; omega
        refine wpAnyH_ready (rs := [10]) (by kernel_rfl) (by simp) ?_
        refine AllReadyH.cons rfl (fun K hK => ?_) AllReadyH.nil
        go_simp
        refine hK.out _ _ trivial (fun hHeld => ?_)
        clear hK K
        try simp only [Act.put, List.setIfInBounds_toArray, List.set_cons_zero, List.set_cons_succ, List.getElem_toArray, List.getElem_cons_zero, List.getElem_cons_succ]
        refine wpAnyH_ready (rs := [11]) (by kernel_rfl) (by simp) ?_
        refine AllReadyH.cons rfl (fun K hK => ?_) AllReadyH.nil
        refine step_app (by rfl) (.tmp 28) (.tmp 33) 24 (by rfl) 9 i0 (.string ⟨#[]⟩) 16 Tryd.underlying24 hi hz0 hz1 hz2 rfl w.heap.size _ _ (by rfl) (ho4 _) _ (by rfl) _ (Laws.Sl.one _ _ _) (oneT _) c6 c7 (c8 _) ?_
        intro v5 w5 ho5 hb5
        refine hK.out _ _ trivial (fun hHeld => ?_)
        clear hK K
        try simp only [Act.put, List.setIfInBounds_toArray, List.set_cons_zero, List.set_cons_succ, List.getElem_toArray, List.getElem_cons_zero, List.getElem_cons_succ]
        have B5 : Below w.heap.size w w5 := (B3.alloc B3.size _).trans hb5
        have ho6 : Own w5 w.heap.size w5.heap.size 9 v5 (ss (P ++ [x])) := by rw [ss_app]; exact ho5
        (refine wpAnyH_take (i := 12) (v := ?v12x9) rfl (by kernel_rfl) (by kernel_rfl) (by kernel_rfl) (fun _ _ _ h => h) (Or.inl ⟨by rfl, ?hy12x9⟩) (by assumption) ?rest12x9; case hy12x9 => (intro w hSw; (try dsimp only at hSw); go_split_ands; go_simp; (try with_reducible rfl)))
        try simp only [Act.put, List.setIfInBounds_toArray, List.set_cons_zero, List.set_cons_succ, List.getElem_toArray, List.getElem_cons_zero, List.getElem_cons_succ]
        refine wpAnyH_done (by kernel_rfl) ?_ _
        clear hHeld
        go_wp2
        go_ret
        exact ⟨v5, rfl, by rw [HP.out]; exact ho6, B5⟩
      · have HP : Hid (grow l n whole = grow (l.drop k) (n - k) false ++ [root (l.take k)]) := HH.out hik
        have q1 : ∀ W, Below w.heap.size w W → _ := fun W hW => ih (l.drop k) (by omega) W _ (n - k) false (s2.later hW) (by omega) (by omega) (by omega) (fun s hs => hz s (List.mem_of_mem_drop hs))
        have q2 : ∀ W, Below w.heap.size w W → _ := fun W hW => root_any l.length (l.take k) (by omega) W _ (s1.later hW) (by omega) (fun s hs => hz s (List.mem_of_mem_take hs))
        have hpl := grow_len (l.drop k) (n - k) false
        have hdl := gdep_le (l.drop k).length (n - k) false
        obtain ⟨x, hx⟩ : ∃ x, root (l.take k) = x := ⟨_, rfl⟩
        obtain ⟨P, hP⟩ : ∃ x, grow (l.drop k) (n - k) false = x := ⟨_, rfl⟩
        rw [hx, hP] at HP
        rw [hP] at hpl
        simp only [hP] at q1
        simp only [hx] at q2
        have hPl : P.length ≤ 1000001 := by omega
        have c6 : (ss P).length + 1 ≤ maxLen := by rw [ss_len]; unfold maxLen; omega
        have c7 : ((ss P).length + 1) * 16 ≤ 140737488355328 := by rw [ss_len]; omega
        have hik' : ¬ (n : Int) ≤ (k : Int) := by omega
        have hwr : IntKind.i64.wrap ((n : Int) - (k : Int)) = ((n - k : Nat) : Int) := by rw [IntKind.wrap_i64]; omega
        clear ih h hz hN h0 hx hP s1 s2 HL HH l1 l2 hpl hdl hPl hik he
        go_enter Tryd.func42, Tryd.ntmps42
        go_wp2_with (go_at_call 49; refine q0.mono ?_; rintro e w1 ⟨rfl, hw1⟩; have hw1 := hw1.symm; subst hw1)
        refine wp_region_held_drew (S := fun _ => True) (by kernel_rfl) trivial (fun hHeld => ?_)
        (refine wpAnyH_take (i := 0) (v := ?v0x10) rfl (by kernel_rfl) (by kernel_rfl) (by kernel_rfl) (fun _ _ _ h => h) (Or.inl ⟨by rfl, ?hy0x10⟩) (by assumption) ?rest0x10; case hy0x10 => (intro w hSw; (try dsimp only at hSw); go_split_ands; go_simp; (try with_reducible rfl)))
        try simp only [Act.put, List.setIfInBounds_toArray, List.set_cons_zero, List.set_cons_succ, List.getElem_toArray, List.getElem_cons_zero, List.getElem_cons_succ]
        (refine wpAnyH_take (i := 1) (v := ?v1x11) rfl (by kernel_rfl) (by kernel_rfl) (by kernel_rfl) (fun _ _ _ h => h) (Or.inl ⟨by rfl, ?hy1x11⟩) (by assumption) ?rest1x11; case hy1x11 => (intro w hSw; (try dsimp only at hSw); go_split_ands; go_simp; (try with_reducible rfl)))
        try simp only [Act.put, List.setIfInBounds_toArray, List.set_cons_zero, List.set_cons_succ, List.getElem_toArray, List.getElem_cons_zero, List.getElem_cons_succ]
        (refine wpAnyH_take (i := 2) (v := ?v2x12) rfl (by kernel_rfl) (by kernel_rfl) (by kernel_rfl) (fun _ _ _ h => h) (Or.inl ⟨by rfl, ?hy2x12⟩) (by assumption) ?rest2x12; case hy2x12 => (intro w hSw; (try dsimp only at hSw); go_split_ands; go_simp; (try with_reducible rfl)))
        try simp only [Act.put, List.setIfInBounds_toArray, List.set_cons_zero, List.set_cons_succ, List.getElem_toArray, List.getElem_cons_zero, List.getElem_cons_succ]
        (refine wpAnyH_take (i := 3) (v := ?v3x13) rfl (by kernel_rfl) (by kernel_rfl) (by kernel_rfl) (fun _ _ _ h => h) (Or.inl ⟨by rfl, ?hy3x13⟩) (by assumption) ?rest3x13; case hy3x13 => (intro w hSw; (try dsimp only at hSw); go_split_ands; go_simp; (try with_reducible rfl)))
        try simp only [Act.put, List.setIfInBounds_toArray, List.set_cons_zero, List.set_cons_succ, List.getElem_toArray, List.getElem_cons_zero, List.getElem_cons_succ]
        (refine wpAnyH_take (i := 4) (v := ?v4x14) rfl (by kernel_rfl) (by kernel_rfl) (by kernel_rfl) (fun _ _ _ h => h) (Or.inl ⟨by rfl, ?hy4x14⟩) (by assumption) ?rest4x14; case hy4x14 => (intro w hSw; (try dsimp only at hSw); go_split_ands; go_simp; (try with_reducible rfl)))
        try simp only [Act.put, List.setIfInBounds_toArray, List.set_cons_zero, List.set_cons_succ, List.getElem_toArray, List.getElem_cons_zero, List.getElem_cons_succ]
        (refine wpAnyH_take (i := 5) (v := ?v5x15) rfl (by kernel_rfl) (by kernel_rfl) (by kernel_rfl) (fun _ _ _ h => h) (Or.inl ⟨by rfl, ?hy5x15⟩) (by assumption) ?rest5x15; case hy5x15 => (intro w hSw; (try dsimp only at hSw); go_split_ands; go_simp; (try with_reducible rfl)))
        try simp only [Act.put, List.setIfInBounds_toArray, List.set_cons_zero, List.set_cons_succ, List.getElem_toArray, List.getElem_cons_zero, List.getElem_cons_succ]
        (refine wpAnyH_take (i := 7) (v := ?v7x16) rfl (by kernel_rfl) (by kernel_rfl) (by kernel_rfl) (fun _ _ _ h => h) (Or.inl ⟨by rfl, ?hy7x16⟩) (by assumption) ?rest7x16; case hy7x16 => (intro w hSw; (try dsimp only at hSw); go_split_ands; go_simp; (try with_reducible rfl)))
        try simp only [Act.put, List.setIfInBounds_toArray, List.set_cons_zero, List.set_cons_succ, List.getElem_toArray, List.getElem_cons_zero, List.getElem_cons_succ]
        (refine wpAnyH_take (i := 8) (v := ?v8x17) rfl (by kernel_rfl) (by kernel_rfl) (by kernel_rfl) (fun _ _ _ h => h) (Or.inl ⟨by rfl, ?hy8x17⟩) (by assumption) ?rest8x17; case hy8x17 => (intro w hSw; (try dsimp only at hSw); go_split_ands; go_simp; (try with_reducible rfl)))
        try simp only [Act.put, List.setIfInBounds_toArray, List.set_cons_zero, List.set_cons_succ, List.getElem_toArray, List.getElem_cons_zero, List.getElem_cons_succ]
        (refine wpAnyH_take (i := 9) (v := ?v9x18) rfl (by kernel_rfl) (by kernel_rfl) (by kernel_rfl) (fun _ _ _ h => h) (Or.inl ⟨by rfl, ?hy9x18⟩) (by assumption) ?rest9x18; case hy9x18 => (intro w hSw; (try dsimp only at hSw); go_split_ands; go_simp; (try with_reducible rfl)))
        try simp only [Act.put, List.setIfInBounds_toArray, List.set_cons_zero, List.set_cons_succ, List.getElem_toArray, List.getElem_cons_zero, List.getElem_cons_succ]
        refine wpAnyH_ready (rs := [6]) (by kernel_rfl) (by simp) ?_
        refine AllReadyH.cons rfl (fun K hK => ?_) AllReadyH.nil
        go_simp
        refine (q1 _ (Below.drew hB0)).mono ?_
        rintro e w2 ⟨v2, rfl, ho2, b2⟩
        refine hK.out _ _ trivial (fun hHeld => ?_)
        clear hK K
        try simp only [Act.put, List.setIfInBounds_toArray, List.set_cons_zero, List.set_cons_succ, List.getElem_toArray, List.getElem_cons_zero, List.getElem_cons_succ]
        have B2 : Below w.heap.size w w2 := (Below.drew hB0).trans b2
        refine wpAnyH_ready (rs := [10]) (by kernel_rfl) (by simp) ?_
        refine AllReadyH.cons rfl (fun K hK => ?_) AllReadyH.nil
        go_simp
        refine (q2 _ B2).mono ?_
        rintro e w3 ⟨rfl, b3⟩
        refine hK.out _ _ trivial (fun hHeld => ?_)
        clear hK K
        try simp only [Act.put, List.setIfInBounds_toArray, List.set_cons_zero, List.set_cons_succ, List.getElem_toArray, List.getElem_cons_zero, List.getElem_cons_succ]
        have B3 : Below w.heap.size w w3 := B2.trans (b3.mono B2.size)
        have ho4 : ∀ o, Own (w3.alloc o) w.heap.size (w3.alloc o).heap.size 9 v2 (ss P) := fun o => Own.alloc ((Own.later ho2 b3 (Nat.le_refl _)).mono (Nat.le_refl _) b3.size) o
        have c8 : ∀ o, w.heap.size ≤ (w3.alloc o).heap.size := fun o => by have := B3.size; simp; omega
        refine wpAnyH_ready (rs := [11]) (by kernel_rfl) (by simp) ?_
        refine AllReadyH.cons rfl (fun K hK => ?_) AllReadyH.nil
        go_simp
        refine hK.out _ _ trivial (fun hHeld => ?_)
        clear hK K
        try simp only [Act.put, List.setIfInBounds_toArray, List.set_cons_zero, List.set_cons_succ, List.getElem_toArray, List.getElem_cons_zero, List.getElem_cons_succ]
        refine wpAnyH_ready (rs := [12]) (by kernel_rfl) (by simp) ?_
        refine AllReadyH.cons rfl (fun K hK => ?_) AllReadyH.nil
        refine step_app (by rfl) (.tmp 41) (.tmp 46) 24 (by rfl) 9 i0 (.string ⟨#[]⟩) 16 Tryd.underlying24 hi hz0 hz1 hz2 rfl w.heap.size _ _ (by rfl) (ho4 _) _ (by rfl) _ (Laws.Sl.one _ _ _) (oneT _) c6 c7 (c8 _) ?_
        intro v5 w5 ho5 hb5
        refine hK.out _ _ trivial (fun hHeld => ?_)
        clear hK K
        try simp only [Act.put, List.setIfInBounds_toArray, List.set_cons_zero, List.set_cons_succ, List.getElem_toArray, List.getElem_cons_zero, List.getElem_cons_succ]
        have B5 : Below w.heap.size w w5 := (B3.alloc B3.size _).trans hb5
        have ho6 : Own w5 w.heap.size w5.heap.size 9 v5 (ss (P ++ [x])) := by rw [ss_app]; exact ho5
        (refine wpAnyH_take (i := 13) (v := ?v13x19) rfl (by kernel_rfl) (by kernel_rfl) (by kernel_rfl) (fun _ _ _ h => h) (Or.inl ⟨by rfl, ?hy13x19⟩) (by assumption) ?rest13x19; case hy13x19 => (intro w hSw; (try dsimp only at hSw); go_split_ands; go_simp; (try with_reducible rfl)))
        try simp only [Act.put, List.setIfInBounds_toArray, List.set_cons_zero, List.set_cons_succ, List.getElem_toArray, List.getElem_cons_zero, List.getElem_cons_succ]
        refine wpAnyH_done (by kernel_rfl) ?_ _
        clear hHeld
        go_wp2
        go_ret
        exact ⟨v5, rfl, by rw [HP.out]; exact ho6, B5⟩

end Go.Proofs.YtljlcelbhlkmcanDoor.Tr

/- Chapter 6, the specification's side: roots over a path. -/
namespace Go.Proofs.YtljlcelbhlkmcanDoor.Tr
open Go.RowKit Go.Proofs.YtljlcelbhlkmcanDoor.Mem Go.Proofs.YtljlcelbhlkmcanDoor.Laws Go.Proofs.YtljlcelbhlkmcanDoor.Bytes Go.Proofs.YtljlcelbhlkmcanDoor.Sha
set_option linter.unusedVariables false
set_option linter.unusedSimpArgs false

/-- a slice of texts that ends with one: where that lies, and what is ahead of it -/
theorem slLast {w : World} {v : Value} {q : List ByteArray} {last : ByteArray} (h : Sl w v (ss (q ++ [last]))) : ∃ b off cap L, v = .slice (some ⟨b, off, none⟩) L cap ∧ L ≤ q.length + 1 ∧ q.length + 1 ≤ L ∧ L ≤ cap ∧
    w.cell? ⟨b, off + (L - 1), none⟩ = some (.string last) ∧ Sl w (.slice (some ⟨b, off, none⟩) (L - 1) cap) (ss q) := by
  have hl : (ss (q ++ [last])).length = q.length + 1 := by rw [ss_len, List.length_append]; rfl
  obtain ⟨b, off, cap, rfl, hcap⟩ := slForm h (by omega)
  refine ⟨b, off, cap, (ss (q ++ [last])).length, rfl, by omega, by omega, hcap, ?_, ?_⟩
  · obtain ⟨ao', c', he, _, _, hr⟩ := h
    simp only [Value.slice.injEq] at he
    obtain ⟨rfl, _, rfl⟩ := he
    obtain ⟨b', off', he', hcell⟩ := hr (by omega)
    simp only [Option.some.injEq, Addr.mk.injEq] at he'
    obtain ⟨rfl, rfl, _⟩ := he'
    rw [hcell _ (by omega), hl]
    simp [ss]
  · have := h.front ((ss (q ++ [last])).length - 1) (by omega)
    rw [ss_take, show (q ++ [last]).take ((ss (q ++ [last])).length - 1) = q by rw [hl]; simp] at this
    exact this

theorem up_size {leaf : ByteArray} {n i : Nat} {p : List ByteArray} (h : leaf.size ≤ 10000000000) : (up leaf i n p).1.size ≤ 10000000000 := by
  by_cases h2 : 2 ≤ n
  · rcases List.eq_nil_or_concat p with rfl | ⟨q, last, rfl⟩
    · rw [up_nil h2]; exact Nat.zero_le _
    · rw [List.concat_eq_append]
      by_cases hi : i < half n
      · rw [up_low h2 hi]; simp only [nodeH_size]; omega
      · rw [up_high h2 hi]; simp only [nodeH_size]; omega
  · rw [up_no h2]; exact h

set_option maxRecDepth 1000000 in
set_option maxHeartbeats 4000000 in
theorem up_any : ∀ (N n : Nat), n ≤ N → ∀ (w : World) (v : Value) (leaf : ByteArray) (i : Nat) (p : List ByteArray), Sl w v (ss p) → n ≤ 1000000 → i ≤ 1000000 → leaf.size ≤ 10000000000 → p.length ≤ 1000000000000 → (∀ s ∈ p, s.size ≤ 10000000000) →
    Calls Tryd.prog 37 #[.string leaf, .int .i64 (i : Int), .int .i64 (n : Int), v] w fun e w' => e = .returned (.tuple #[.string (up leaf i n p).1, .bool (up leaf i n p).2]) ∧ Below w.heap.size w w' := by
  intro N
  induction N with
  | zero =>
    intro n hN w v leaf i p h hn hi hlf hpl hz
    obtain rfl : n = 0 := by omega
    have HN : Hid (up leaf i 0 p = (leaf, p.isEmpty)) := up_no (by omega) leaf i p
    obtain ⟨ao, cap, rfl, hcap, _⟩ := h
    have dE : (((ss p).length : Int) == 0) = p.isEmpty := by rw [ss_len]; cases p <;> simp <;> omega
    go_enter Tryd.func37, Tryd.ntmps37
    go_wp2
    go_ret2
    exact ⟨by rw [HN.out]; rfl, Below.refl _ _⟩
  | succ N ih =>
    intro n hN w v leaf i p h hn hi hlf hpl hz
    by_cases h0 : n ≤ N
    · exact ih n h0 w v leaf i p h hn hi hlf hpl hz
    by_cases h2 : 2 ≤ n
    · have v2 : ¬ (n : Int) < 2 := by omega
      rcases List.eq_nil_or_concat p with rfl | ⟨q, last, rfl⟩
      · have HN : Hid (up leaf i n [] = (⟨#[]⟩, false)) := up_nil h2 leaf i
        obtain ⟨ao, cap, rfl, hcap, _⟩ := h
        rw [ss_len]
        clear ih hz
        go_enter Tryd.func37, Tryd.ntmps37
        go_wp2
        go_ret2
        exact ⟨by rw [HN.out]; rfl, Below.refl _ _⟩
      · rw [List.concat_eq_append] at *
        obtain ⟨b, off, cap, L, rfl, hL1, hL2, hcap, c0, s1⟩ := slLast h
        have hk := half_ok h2
        have hp := half_pos h2
        have HL : Hid (i < half n → up leaf i n (q ++ [last]) = (nodeH (up leaf i (half n) q).1 last, (up leaf i (half n) q).2)) := fun hj => up_low h2 hj leaf last q
        have HH : Hid (¬ i < half n → up leaf i n (q ++ [last]) = (nodeH last (up leaf (i - half n) (n - half n) q).1, (up leaf (i - half n) (n - half n) q).2)) := fun hj => up_high h2 hj leaf last q
        have q0 := half_spec w n (by omega)
        obtain ⟨k, hkk⟩ : ∃ k, half n = k := ⟨_, rfl⟩
        rw [hkk] at hk hp HL HH q0
        obtain ⟨_, hk1, hk2⟩ := hk
        clear hkk h
        have hlz := hz last (by simp)
        have hqz : ∀ s ∈ q, s.size ≤ 10000000000 := fun s hs => hz s (by simp [hs])
        have d0 : ((L : Int) == 0) = false := by rw [beq_eq_false_iff_ne]; omega
        have e0 : (1 : Int) ≤ (L : Int) := by omega
        have e1 : (L : Int) - 1 < (L : Int) := by omega
        have e2 : (L : Int) - 1 ≤ (cap : Int) := by omega
        have e3 : (0 : Int) ≤ (L : Int) - 1 := by omega
        have dn : ((L : Int) - 1).toNat = L - 1 := by omega
        have hpl' : q.length + 1 ≤ 1000000000000 := by rw [List.length_append] at hpl; exact hpl
        have hwr : IntKind.i64.wrap ((L : Int) - 1) = (L : Int) - 1 := by rw [IntKind.wrap_i64]; omega
        clear hz hpl
        by_cases hik : i < k
        · have HP : Hid (up leaf i n (q ++ [last]) = (nodeH (up leaf i k q).1 last, (up leaf i k q).2)) := HL.out hik
          have q1 := ih k (by omega) w _ leaf i q s1 (by omega) hi hlf (by omega) hqz
          have hxz := up_size (n := k) (i := i) (p := q) hlf
          obtain ⟨x, hx⟩ : ∃ x, (up leaf i k q).1 = x := ⟨_, rfl⟩
          obtain ⟨y, hy⟩ : ∃ x, (up leaf i k q).2 = x := ⟨_, rfl⟩
          rw [hx, hy] at q1 HP
          rw [hx] at hxz
          have q2 : ∀ W, _ := fun W => node_spec W x last (by omega) (by omega)
          have hik' : (i : Int) < (k : Int) := by omega
          clear ih s1 HL HH hx hy hik hqz
          go_enter Tryd.func37, Tryd.ntmps37
          go_wp2_with fail
          refine q0.mono ?_
          rintro e w1 ⟨rfl, hw1⟩
          have hw1 := hw1.symm
          subst hw1
          go_wp2_with fail
          refine q1.mono ?_
          rintro e w2 ⟨rfl, b2⟩
          go_wp2_with fail
          refine (q2 _).mono ?_
          rintro e w3 ⟨rfl, b3⟩
          have B3 : Below w.heap.size w w3 := b2.trans (b3.mono b2.size)
          go_wp2
          go_ret2
          exact ⟨by rw [HP.out]; rfl, B3⟩
        · have HP : Hid (up leaf i n (q ++ [last]) = (nodeH last (up leaf (i - k) (n - k) q).1, (up leaf (i - k) (n - k) q).2)) := HH.out hik
          have q1 := ih (n - k) (by omega) w _ leaf (i - k) q s1 (by omega) (by omega) hlf (by omega) hqz
          have hxz := up_size (n := n - k) (i := i - k) (p := q) hlf
          obtain ⟨x, hx⟩ : ∃ x, (up leaf (i - k) (n - k) q).1 = x := ⟨_, rfl⟩
          obtain ⟨y, hy⟩ : ∃ x, (up leaf (i - k) (n - k) q).2 = x := ⟨_, rfl⟩
          rw [hx, hy] at q1 HP
          rw [hx] at hxz
          have q2 : ∀ W, _ := fun W => node_spec W last x (by omega) (by omega)
          have hik' : ¬ (i : Int) < (k : Int) := by omega
          have w1' : IntKind.i64.wrap ((i : Int) - (k : Int)) = ((i - k : Nat) : Int) := by rw [IntKind.wrap_i64]; omega
          have w2' : IntKind.i64.wrap ((n : Int) - (k : Int)) = ((n - k : Nat) : Int) := by rw [IntKind.wrap_i64]; omega
          clear ih s1 HL HH hx hy hik hqz
          go_enter Tryd.func37, Tryd.ntmps37
          go_wp2_with fail
          refine q0.mono ?_
          rintro e w1 ⟨rfl, hw1⟩
          have hw1 := hw1.symm
          subst hw1
          go_wp2_with fail
          refine q1.mono ?_
          rintro e w2 ⟨rfl, b2⟩
          go_wp2_with fail
          refine (q2 _).mono ?_
          rintro e w3 ⟨rfl, b3⟩
          have B3 : Below w.heap.size w w3 := b2.trans (b3.mono b2.size)
          go_wp2
          go_ret2
          exact ⟨by rw [HP.out]; rfl, B3⟩
    · have HN : Hid (up leaf i n p = (leaf, p.isEmpty)) := up_no h2 leaf i p
      have v2 : (n : Int) < 2 := by omega
      obtain ⟨ao, cap, rfl, hcap, _⟩ := h
      have dE : (((ss p).length : Int) == 0) = p.isEmpty := by rw [ss_len]; cases p <;> simp <;> omega
      clear ih hz
      go_enter Tryd.func37, Tryd.ntmps37
      go_wp2
      go_ret2
      exact ⟨by rw [HN.out]; rfl, Below.refl _ _⟩

end Go.Proofs.YtljlcelbhlkmcanDoor.Tr

/- Chapter 6, the specification's side: the roots of a beginning and of all over a path. -/
namespace Go.Proofs.YtljlcelbhlkmcanDoor.Tr
open Go.RowKit Go.Proofs.YtljlcelbhlkmcanDoor.Mem Go.Proofs.YtljlcelbhlkmcanDoor.Laws Go.Proofs.YtljlcelbhlkmcanDoor.Bytes Go.Proofs.YtljlcelbhlkmcanDoor.Sha
set_option linter.unusedVariables false
set_option linter.unusedSimpArgs false

theorem grown_size (m : Nat) : ∀ {n : Nat} {whole : Bool} {a : ByteArray} {p : List ByteArray}, a.size ≤ 10000000000 → (∀ s ∈ p, s.size ≤ 10000000000) → (grown n m whole a p).1.size ≤ 10000000000 ∧ (grown n m whole a p).2.1.size ≤ 10000000000 := by
  refine natRec (P := fun m => ∀ {n : Nat} {whole : Bool} {a : ByteArray} {p : List ByteArray}, a.size ≤ 10000000000 → (∀ s ∈ p, s.size ≤ 10000000000) → (grown n m whole a p).1.size ≤ 10000000000 ∧ (grown n m whole a p).2.1.size ≤ 10000000000) ?_ m
  intro m ih n whole a p ha hz
  by_cases hn : n = m
  · subst hn
    cases whole
    · by_cases hp : p.length = 1
      · obtain ⟨x, rfl⟩ := List.length_eq_one_iff.1 hp
        rw [grown_one]
        exact ⟨hz x (by simp), hz x (by simp)⟩
      · rw [grown_not a hp]
        exact ⟨Nat.zero_le _, Nat.zero_le _⟩
    · rw [grown_whole]
      exact ⟨ha, ha⟩
  · by_cases h : 2 ≤ m
    · have hk := half_ok h
      have hp := half_pos h
      rcases List.eq_nil_or_concat p with rfl | ⟨q, last, rfl⟩
      · rw [grown_nil hn h]; exact ⟨Nat.zero_le _, Nat.zero_le _⟩
      · rw [List.concat_eq_append] at *
        by_cases hi : n ≤ half m
        · rw [grown_low hn h hi]
          exact ⟨(ih (half m) (by omega) ha (fun s hs => hz s (by simp [hs]))).1, by simp only [nodeH_size]; omega⟩
        · rw [grown_high hn h hi]
          exact ⟨by simp only [nodeH_size]; omega, by simp only [nodeH_size]; omega⟩
    · rw [grown_if, if_neg hn, if_neg h]
      exact ⟨Nat.zero_le _, Nat.zero_le _⟩

set_option maxRecDepth 1000000 in
set_option maxHeartbeats 4000000 in
theorem grown_any : ∀ (N m : Nat), m ≤ N → ∀ (w : World) (v : Value) (n : Nat) (whole : Bool) (a : ByteArray) (p : List ByteArray), Sl w v (ss p) → m ≤ 1000000 → 1 ≤ n → n ≤ m → a.size ≤ 10000000000 → p.length ≤ 1000000000000 → (∀ s ∈ p, s.size ≤ 10000000000) →
    Calls Tryd.prog 44 #[.int .i64 (n : Int), .int .i64 (m : Int), .bool whole, .string a, v] w fun e w' => e = .returned (.tuple #[.string (grown n m whole a p).1, .string (grown n m whole a p).2.1, .bool (grown n m whole a p).2.2]) ∧ Below w.heap.size w w' := by
  intro N
  induction N with
  | zero => intro m hN w v n whole a p h hm h1 hnm ha hpl hz; omega
  | succ N ih =>
    intro m hN w v n whole a p h hm h1 hnm ha hpl hz
    by_cases h0 : m ≤ N
    · exact ih m h0 w v n whole a p h hm h1 hnm ha hpl hz
    by_cases hn : n = m
    · subst hn
      cases whole
      · by_cases hp : p.length = 1
        · obtain ⟨x, rfl⟩ := List.length_eq_one_iff.1 hp
          have HN : Hid (grown n n false a [x] = (x, x, true)) := grown_one n a x
          obtain ⟨b, off, cap, L, rfl, hL1, hL2, hcap, c0, s1⟩ := slLast (q := []) h
          have hL : L = 1 := by simp at hL1 hL2; omega
          subst hL
          simp only [Nat.sub_self, Nat.add_zero] at c0
          clear ih h hz s1
          go_enter Tryd.func44, Tryd.ntmps44
          go_wp2_with fail
          go_quiet (fail)
          go_wp2
          go_ret3
          exact ⟨by rw [HN.out]; rfl, ⟨rfl, rfl, rfl, Nat.le_refl _, fun _ _ => rfl⟩⟩
        · have HN : Hid (grown n n false a p = (⟨#[]⟩, ⟨#[]⟩, false)) := grown_not a hp
          obtain ⟨ao, cap, rfl, hcap, _⟩ := h
          have d1 : ((p.length : Int) != 1) = true := by rw [bne_iff_ne]; omega
          rw [ss_len]
          clear ih hz
          go_enter Tryd.func44, Tryd.ntmps44
          go_wp2
          go_ret3
          exact ⟨by rw [HN.out]; rfl, Below.refl _ _⟩
      · have HN : Hid (grown n n true a p = (a, a, p.isEmpty)) := grown_whole n a p
        obtain ⟨ao, cap, rfl, hcap, _⟩ := h
        have dE : (((ss p).length : Int) == 0) = p.isEmpty := by rw [ss_len]; cases p <;> simp <;> omega
        clear ih hz
        go_enter Tryd.func44, Tryd.ntmps44
        go_wp2
        go_ret3
        exact ⟨by rw [HN.out]; rfl, Below.refl _ _⟩
    · have h2 : 2 ≤ m := by omega
      have dd : ((n : Int) == (m : Int)) = false := by rw [beq_eq_false_iff_ne]; omega
      rcases List.eq_nil_or_concat p with rfl | ⟨q, last, rfl⟩
      · have HN : Hid (grown n m whole a [] = (⟨#[]⟩, ⟨#[]⟩, false)) := grown_nil hn h2 whole a
        obtain ⟨ao, cap, rfl, hcap, _⟩ := h
        rw [ss_len]
        clear ih hz
        go_enter Tryd.func44, Tryd.ntmps44
        go_wp2
        go_ret3
        exact ⟨by rw [HN.out]; rfl, Below.refl _ _⟩
      · rw [List.concat_eq_append] at *
        obtain ⟨b, off, cap, L, rfl, hL1, hL2, hcap, c0, s1⟩ := slLast h
        have hk := half_ok h2
        have hp := half_pos h2
        have HL : Hid (n ≤ half m → grown n m whole a (q ++ [last]) = ((grown n (half m) whole a q).1, nodeH (grown n (half m) whole a q).2.1 last, (grown n (half m) whole a q).2.2)) := fun hj => grown_low hn h2 hj whole a last q
        have HH : Hid (¬ n ≤ half m → grown n m whole a (q ++ [last]) = (nodeH last (grown (n - half m) (m - half m) false a q).1, nodeH last (grown (n - half m) (m - half m) false a q).2.1, (grown (n - half m) (m - half m) false a q).2.2)) := fun hj => grown_high hn h2 hj whole a last q
        have q0 := half_spec w m (by omega)
        obtain ⟨k, hkk⟩ : ∃ k, half m = k := ⟨_, rfl⟩
        rw [hkk] at hk hp HL HH q0
        obtain ⟨_, hk1, hk2⟩ := hk
        clear hkk h
        have hlz := hz last (by simp)
        have hqz : ∀ s ∈ q, s.size ≤ 10000000000 := fun s hs => hz s (by simp [hs])
        have d0 : ((L : Int) == 0) = false := by rw [beq_eq_false_iff_ne]; omega
        have e0 : (1 : Int) ≤ (L : Int) := by omega
        have e1 : (L : Int) - 1 < (L : Int) := by omega
        have e2 : (L : Int) - 1 ≤ (cap : Int) := by omega
        have e3 : (0 : Int) ≤ (L : Int) - 1 := by omega
        have dn : ((L : Int) - 1).toNat = L - 1 := by omega
        have hpl' : q.length + 1 ≤ 1000000000000 := by rw [List.length_append] at hpl; exact hpl
        have hwr : IntKind.i64.wrap ((L : Int) - 1) = (L : Int) - 1 := by rw [IntKind.wrap_i64]; omega
        clear hz hpl
        by_cases hik : n ≤ k
        · have HP : Hid _ := HL.out hik
          have q1 := ih k (by omega) w _ n whole a q s1 (by omega) h1 hik ha (by omega) hqz
          have hxz := grown_size k (n := n) (whole := whole) ha hqz
          obtain ⟨x, hx⟩ : ∃ x, (grown n k whole a q).1 = x := ⟨_, rfl⟩
          obtain ⟨y, hy⟩ : ∃ x, (grown n k whole a q).2.1 = x := ⟨_, rfl⟩
          obtain ⟨z, hz⟩ : ∃ x, (grown n k whole a q).2.2 = x := ⟨_, rfl⟩
          rw [hx, hy, hz] at q1 HP
          rw [hx, hy] at hxz
          have q2 : ∀ W, _ := fun W => node_spec W y last (by omega) (by omega)
          have hik' : (n : Int) ≤ (k : Int) := by omega
          clear ih s1 HL HH hx hy hz hik hqz hn
          go_enter Tryd.func44, Tryd.ntmps44
          go_wp2_with fail
          refine q0.mono ?_
          rintro e w1 ⟨rfl, hw1⟩
          have hw1 := hw1.symm
          subst hw1
          go_wp2_with fail
          refine q1.mono ?_
          rintro e w2 ⟨rfl, b2⟩
          go_wp2_with fail
          refine (q2 _).mono ?_
          rintro e w3 ⟨rfl, b3⟩
          have B3 : Below w.heap.size w w3 := b2.trans (b3.mono b2.size)
          go_wp2
          go_ret3
          exact ⟨by rw [HP.out]; rfl, B3⟩
        · have HP : Hid _ := HH.out hik
          have q1 := ih (m - k) (by omega) w _ (n - k) false a q s1 (by omega) (by omega) (by omega) ha (by omega) hqz
          have hxz := grown_size (m - k) (n := n - k) (whole := false) ha hqz
          obtain ⟨x, hx⟩ : ∃ x, (grown (n - k) (m - k) false a q).1 = x := ⟨_, rfl⟩
          obtain ⟨y, hy⟩ : ∃ x, (grown (n - k) (m - k) false a q).2.1 = x := ⟨_, rfl⟩
          obtain ⟨z, hz⟩ : ∃ x, (grown (n - k) (m - k) false a q).2.2 = x := ⟨_, rfl⟩
          rw [hx, hy, hz] at q1 HP
          rw [hx, hy] at hxz
          have q2 : ∀ W, _ := fun W => node_spec W last x (by omega) (by omega)
          have q3 : ∀ W, _ := fun W => node_spec W last y (by omega) (by omega)
          have hik' : ¬ (n : Int) ≤ (k : Int) := by omega
          have w1' : IntKind.i64.wrap ((n : Int) - (k : Int)) = ((n - k : Nat) : Int) := by rw [IntKind.wrap_i64]; omega
          have w2' : IntKind.i64.wrap ((m : Int) - (k : Int)) = ((m - k : Nat) : Int) := by rw [IntKind.wrap_i64]; omega
          clear ih s1 HL HH hx hy hz hik hqz hn
          go_enter Tryd.func44, Tryd.ntmps44
          go_wp2_with fail
          refine q0.mono ?_
          rintro e w1 ⟨rfl, hw1⟩
          have hw1 := hw1.symm
          subst hw1
          go_wp2_with fail
          refine q1.mono ?_
          rintro e w2 ⟨rfl, b2⟩
          go_wp2_with fail
          refine (q2 _).mono ?_
          rintro e w3 ⟨rfl, b3⟩
          have B3 : Below w.heap.size w w3 := b2.trans (b3.mono b2.size)
          go_wp2_with fail
          refine (q3 _).mono ?_
          rintro e w4 ⟨rfl, b4⟩
          have B4 : Below w.heap.size w w4 := B3.trans (b4.mono B3.size)
          go_wp2
          go_ret3
          exact ⟨by rw [HP.out]; rfl, B4⟩

end Go.Proofs.YtljlcelbhlkmcanDoor.Tr
