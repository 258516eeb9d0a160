/- Chapter 6, the specification's side: paths. -/
import Derived.Test.YtccnhhdcdamgmaaDoorTr3
namespace Go.Proofs.YtccnhhdcdamgmaaDoor.Tr
open Go.RowKit Go.Proofs.YtccnhhdcdamgmaaDoor.Mem Go.Proofs.YtccnhhdcdamgmaaDoor.Laws Go.Proofs.YtccnhhdcdamgmaaDoor.Bytes Go.Proofs.YtccnhhdcdamgmaaDoor.Sha
set_option linter.unusedVariables false
set_option linter.unusedSimpArgs false

theorem emptyT (w : World) (lo : Nat) (h : lo ≤ w.heap.size) : Own (w.alloc (.cells #[] 9)) lo (w.alloc (.cells #[] 9)).heap.size 9 (.slice (some ⟨w.heap.size, 0, none⟩) 0 0) (ss []) :=
  Own.of (World.ownsRow_lit w #[] 0 h (Nat.zero_le _) rfl)
theorem oneT (s : ByteArray) : ∀ u ∈ [Value.string s], u.oneCell' = true := by
  intro u hu
  simp at hu
  subst hu
  rfl
theorem info9t : (Tryd.prog.info? 9).map (fun i => (i.zero, i.size, i.bytes)) = some (some (.string ⟨#[]⟩), 1, 16) := by kernel_rfl
theorem dep_le (n : Nat) : ∀ i, dep i n ≤ n := by
  refine natRec (P := fun n => ∀ i, dep i n ≤ n) ?_ n
  intro n ih i
  by_cases h : 2 ≤ n
  · have hk := half_ok h
    have hp := half_pos h
    rw [dep_if, if_pos h]
    split
    · have := ih (half n) (by omega) i; omega
    · have := ih (n - half n) (by omega) (i - half n); omega
  · rw [dep_if, if_neg h]; omega

set_option maxRecDepth 1000000 in
set_option maxHeartbeats 4000000 in
theorem path_any : ∀ (N : Nat) (l : List ByteArray), l.length ≤ N → ∀ (w : World) (v : Value) (i : Nat), Sl w v (ss l) → l.length ≤ 1000000 → i ≤ 1000000 → (∀ s ∈ l, s.size ≤ 10000000000) →
    Calls Tryd.prog 64 #[v, .int .i64 (i : Int)] w fun e w' => ∃ v', e = .returned v' ∧ Own w' w.heap.size w'.heap.size 9 v' (ss (path l i)) ∧ Below w.heap.size w w' := by
  intro N
  induction N with
  | zero =>
    intro l hN w v i h hl hi' hz
    obtain rfl : l = [] := List.eq_nil_of_length_eq_zero (by omega)
    have HN : Hid (path [] i = []) := path_no (by simp) i
    obtain ⟨ao, cap, rfl, _⟩ := h
    have HO : Hid (Own (w.alloc (.cells #[] 9)) w.heap.size (w.alloc (.cells #[] 9)).heap.size 9 (.slice (some ⟨w.heap.size, 0, none⟩) 0 0) (ss [])) := emptyT w w.heap.size (Nat.le_refl _)
    have HB : Hid (Below w.heap.size w (w.alloc (.cells #[] 9))) := (Below.refl _ _).alloc (Nat.le_refl _) _
    rw [ss_len]
    go_enter Tryd.func64, Tryd.ntmps64
    go_wp2
    go_ret
    exact ⟨_, rfl, by rw [HN.out]; exact HO.out, HB.out⟩
  | succ N ih =>
    intro l hN w v i h hl hi' hz
    by_cases h0 : l.length ≤ N
    · exact ih l h0 w v i h hl hi' hz
    obtain ⟨b, off, cap, rfl, hcap⟩ := slForm h (by rw [ss_len]; omega)
    rw [ss_len] at h hcap ⊢
    by_cases h2 : 2 ≤ l.length
    · obtain ⟨i0, hi, hz0, hz1, hz2⟩ := info_parts info9t
      have hk := half_ok h2
      have hp := half_pos h2
      have HL : Hid (∀ j, j < half l.length → path l j = path (l.take (half l.length)) j ++ [root (l.drop (half l.length))]) := fun j hj => path_low h2 hj
      have HH : Hid (∀ j, ¬ j < half l.length → path l j = path (l.drop (half l.length)) (j - half l.length) ++ [root (l.take (half l.length))]) := fun j hj => path_high h2 hj
      have q0 := half_spec w l.length (by omega)
      obtain ⟨k, hkk⟩ : ∃ k, half l.length = k := ⟨_, rfl⟩
      rw [hkk] at hk hp HL HH q0
      obtain ⟨_, hk1, hk2⟩ := hk
      clear hkk
      have s1 : Sl w (.slice (some ⟨b, off, none⟩) k cap) (ss (l.take k)) := by rw [← ss_take]; exact h.front k (by rw [ss_len]; omega)
      have s2 : Sl w (.slice (some ⟨b, off + k, none⟩) (l.length - k) (cap - k)) (ss (l.drop k)) := by rw [← ss_drop]; exact slBack h k (by rw [ss_len]; omega)
      have l1 : (l.take k).length = k := by rw [List.length_take]; omega
      have l2 : (l.drop k).length = l.length - k := by rw [List.length_drop]
      have vv : ¬ (l.length : Int) < 2 := by omega
      have v1 : (k : Int) ≤ (l.length : Int) := by omega
      have v2 : (k : Int) ≤ (cap : Int) := by omega
      have v3 : (l.length : Int) ≤ (cap : Int) := by omega
      have vne : ¬ cap = k := by omega
      have hB0 : Below w.heap.size w w := Below.refl _ _
      by_cases hik : i < k
      · have HP : Hid (path l i = path (l.take k) i ++ [root (l.drop k)]) := HL.out i hik
        have q1 : ∀ W, Below w.heap.size w W → _ := fun W hW => ih (l.take k) (by omega) W _ i (s1.later hW) (by omega) hi' (fun s hs => hz s (List.mem_of_mem_take hs))
        have q2 : ∀ W, Below w.heap.size w W → _ := fun W hW => root_any l.length (l.drop k) (by omega) W _ (s2.later hW) (by omega) (fun s hs => hz s (List.mem_of_mem_drop hs))
        have hpl := path_len (l.take k) i
        have hdl := dep_le (l.take k).length i
        obtain ⟨x, hx⟩ : ∃ x, root (l.drop k) = x := ⟨_, rfl⟩
        obtain ⟨P, hP⟩ : ∃ x, path (l.take k) i = x := ⟨_, rfl⟩
        rw [hx, hP] at HP
        rw [hP] at hpl
        simp only [hP] at q1
        simp only [hx] at q2
        have hPl : P.length ≤ 1000000 := by omega
        have c6 : (ss P).length + 1 ≤ maxLen := by rw [ss_len]; unfold maxLen; omega
        have c7 : ((ss P).length + 1) * 16 ≤ 140737488355328 := by rw [ss_len]; omega
        have hik' : (i : Int) < (k : Int) := by omega
        clear ih h hz hN h0 hx hP s1 s2 HL HH l1 l2 hpl hdl hPl hik
        go_enter Tryd.func64, Tryd.ntmps64
        go_wp2_with (go_at_call 88; refine q0.mono ?_; rintro e w1 ⟨rfl, hw1⟩; have hw1 := hw1.symm; subst hw1)
        refine wp_region_held_drew (S := fun _ => True) (by kernel_rfl) trivial (fun hHeld => ?_)
        (refine wpAnyH_take (i := 0) (v := ?v0x1) rfl (by kernel_rfl) (by kernel_rfl) (by kernel_rfl) (fun _ _ _ h => h) (Or.inl ⟨by rfl, ?hy0x1⟩) (by assumption) ?rest0x1; case hy0x1 => (intro w hSw; (try dsimp only at hSw); go_split_ands; go_simp; (try with_reducible rfl)))
        try simp only [Act.put, List.setIfInBounds_toArray, List.set_cons_zero, List.set_cons_succ, List.getElem_toArray, List.getElem_cons_zero, List.getElem_cons_succ]
        (refine wpAnyH_take (i := 1) (v := ?v1x2) rfl (by kernel_rfl) (by kernel_rfl) (by kernel_rfl) (fun _ _ _ h => h) (Or.inl ⟨by rfl, ?hy1x2⟩) (by assumption) ?rest1x2; case hy1x2 => (intro w hSw; (try dsimp only at hSw); go_split_ands; go_simp; (try with_reducible rfl)))
        try simp only [Act.put, List.setIfInBounds_toArray, List.set_cons_zero, List.set_cons_succ, List.getElem_toArray, List.getElem_cons_zero, List.getElem_cons_succ]
        (refine wpAnyH_take (i := 2) (v := ?v2x3) rfl (by kernel_rfl) (by kernel_rfl) (by kernel_rfl) (fun _ _ _ h => h) (Or.inl ⟨by rfl, ?hy2x3⟩) (by assumption) ?rest2x3; case hy2x3 => (intro w hSw; (try dsimp only at hSw); go_split_ands; go_simp; (try with_reducible rfl)))
        try simp only [Act.put, List.setIfInBounds_toArray, List.set_cons_zero, List.set_cons_succ, List.getElem_toArray, List.getElem_cons_zero, List.getElem_cons_succ]
        (refine wpAnyH_take (i := 3) (v := ?v3x4) rfl (by kernel_rfl) (by kernel_rfl) (by kernel_rfl) (fun _ _ _ h => h) (Or.inl ⟨by rfl, ?hy3x4⟩) (by assumption) ?rest3x4; case hy3x4 => (intro w hSw; (try dsimp only at hSw); go_split_ands; go_simp; (try with_reducible rfl)))
        try simp only [Act.put, List.setIfInBounds_toArray, List.set_cons_zero, List.set_cons_succ, List.getElem_toArray, List.getElem_cons_zero, List.getElem_cons_succ]
        (refine wpAnyH_take (i := 5) (v := ?v5x5) rfl (by kernel_rfl) (by kernel_rfl) (by kernel_rfl) (fun _ _ _ h => h) (Or.inl ⟨by rfl, ?hy5x5⟩) (by assumption) ?rest5x5; case hy5x5 => (intro w hSw; (try dsimp only at hSw); go_split_ands; go_simp; (try with_reducible rfl)))
        try simp only [Act.put, List.setIfInBounds_toArray, List.set_cons_zero, List.set_cons_succ, List.getElem_toArray, List.getElem_cons_zero, List.getElem_cons_succ]
        (refine wpAnyH_take (i := 6) (v := ?v6x6) rfl (by kernel_rfl) (by kernel_rfl) (by kernel_rfl) (fun _ _ _ h => h) (Or.inl ⟨by rfl, ?hy6x6⟩) (by assumption) ?rest6x6; case hy6x6 => (intro w hSw; (try dsimp only at hSw); go_split_ands; go_simp; (try with_reducible rfl)))
        try simp only [Act.put, List.setIfInBounds_toArray, List.set_cons_zero, List.set_cons_succ, List.getElem_toArray, List.getElem_cons_zero, List.getElem_cons_succ]
        (refine wpAnyH_take (i := 7) (v := ?v7x7) rfl (by kernel_rfl) (by kernel_rfl) (by kernel_rfl) (fun _ _ _ h => h) (Or.inl ⟨by rfl, ?hy7x7⟩) (by assumption) ?rest7x7; case hy7x7 => (intro w hSw; (try dsimp only at hSw); go_split_ands; go_simp; (try with_reducible rfl)))
        try simp only [Act.put, List.setIfInBounds_toArray, List.set_cons_zero, List.set_cons_succ, List.getElem_toArray, List.getElem_cons_zero, List.getElem_cons_succ]
        refine wpAnyH_ready (rs := [4]) (by kernel_rfl) (by simp) ?_
        refine AllReadyH.cons rfl (fun K hK => ?_) AllReadyH.nil
        go_simp
        refine (q1 _ (Below.drew hB0)).mono ?_
        rintro e w2 ⟨v2, rfl, ho2, b2⟩
        refine hK.out _ _ trivial (fun hHeld => ?_)
        clear hK K
        try simp only [Act.put, List.setIfInBounds_toArray, List.set_cons_zero, List.set_cons_succ, List.getElem_toArray, List.getElem_cons_zero, List.getElem_cons_succ]
        have B2 : Below w.heap.size w w2 := (Below.drew hB0).trans b2
        refine wpAnyH_ready (rs := [8]) (by kernel_rfl) (by simp) ?_
        refine AllReadyH.cons rfl (fun K hK => ?_) AllReadyH.nil
        go_simp
        refine (q2 _ B2).mono ?_
        rintro e w3 ⟨rfl, b3⟩
        refine hK.out _ _ trivial (fun hHeld => ?_)
        clear hK K
        try simp only [Act.put, List.setIfInBounds_toArray, List.set_cons_zero, List.set_cons_succ, List.getElem_toArray, List.getElem_cons_zero, List.getElem_cons_succ]
        have B3 : Below w.heap.size w w3 := B2.trans (b3.mono B2.size)
        have ho4 : ∀ o, Own (w3.alloc o) w.heap.size (w3.alloc o).heap.size 9 v2 (ss P) := fun o => Own.alloc ((Own.later ho2 b3 (Nat.le_refl _)).mono (Nat.le_refl _) b3.size) o
        have c8 : ∀ o, w.heap.size ≤ (w3.alloc o).heap.size := fun o => by have := B3.size; simp; omega
        refine wpAnyH_ready (rs := [9]) (by kernel_rfl) (by simp) ?_
        refine AllReadyH.cons rfl (fun K hK => ?_) AllReadyH.nil
        go_simp
        refine hK.out _ _ trivial (fun hHeld => ?_)
        clear hK K
        try simp only [Act.put, List.setIfInBounds_toArray, List.set_cons_zero, List.set_cons_succ, List.getElem_toArray, List.getElem_cons_zero, List.getElem_cons_succ]
        refine wpAnyH_ready (rs := [10]) (by kernel_rfl) (by simp) ?_
        refine AllReadyH.cons rfl (fun K hK => ?_) AllReadyH.nil
        refine step_app (by rfl) (.tmp 20) (.tmp 25) 24 (by rfl) 9 i0 (.string ⟨#[]⟩) 16 Tryd.underlying24 hi hz0 hz1 hz2 rfl w.heap.size _ _ (by rfl) (ho4 _) _ (by rfl) _ (Laws.Sl.one _ _ _) (oneT _) c6 c7 (c8 _) ?_
        intro v5 w5 ho5 hb5
        refine hK.out _ _ trivial (fun hHeld => ?_)
        clear hK K
        try simp only [Act.put, List.setIfInBounds_toArray, List.set_cons_zero, List.set_cons_succ, List.getElem_toArray, List.getElem_cons_zero, List.getElem_cons_succ]
        have B5 : Below w.heap.size w w5 := (B3.alloc B3.size _).trans hb5
        have ho6 : Own w5 w.heap.size w5.heap.size 9 v5 (ss (P ++ [x])) := by rw [ss_app]; exact ho5
        (refine wpAnyH_take (i := 11) (v := ?v11x8) rfl (by kernel_rfl) (by kernel_rfl) (by kernel_rfl) (fun _ _ _ h => h) (Or.inl ⟨by rfl, ?hy11x8⟩) (by assumption) ?rest11x8; case hy11x8 => (intro w hSw; (try dsimp only at hSw); go_split_ands; go_simp; (try with_reducible rfl)))
        try simp only [Act.put, List.setIfInBounds_toArray, List.set_cons_zero, List.set_cons_succ, List.getElem_toArray, List.getElem_cons_zero, List.getElem_cons_succ]
        refine wpAnyH_done (by kernel_rfl) ?_ _
        clear hHeld
        go_wp2
        go_ret
        exact ⟨v5, rfl, by rw [HP.out]; exact ho6, B5⟩
      · have HP : Hid (path l i = path (l.drop k) (i - k) ++ [root (l.take k)]) := HH.out i hik
        have q1 : ∀ W, Below w.heap.size w W → _ := fun W hW => ih (l.drop k) (by omega) W _ (i - k) (s2.later hW) (by omega) (by omega) (fun s hs => hz s (List.mem_of_mem_drop hs))
        have q2 : ∀ W, Below w.heap.size w W → _ := fun W hW => root_any l.length (l.take k) (by omega) W _ (s1.later hW) (by omega) (fun s hs => hz s (List.mem_of_mem_take hs))
        have hpl := path_len (l.drop k) (i - k)
        have hdl := dep_le (l.drop k).length (i - k)
        obtain ⟨x, hx⟩ : ∃ x, root (l.take k) = x := ⟨_, rfl⟩
        obtain ⟨P, hP⟩ : ∃ x, path (l.drop k) (i - k) = x := ⟨_, rfl⟩
        rw [hx, hP] at HP
        rw [hP] at hpl
        simp only [hP] at q1
        simp only [hx] at q2
        have hPl : P.length ≤ 1000000 := by omega
        have c6 : (ss P).length + 1 ≤ maxLen := by rw [ss_len]; unfold maxLen; omega
        have c7 : ((ss P).length + 1) * 16 ≤ 140737488355328 := by rw [ss_len]; omega
        have hik' : ¬ (i : Int) < (k : Int) := by omega
        have hwr : IntKind.i64.wrap ((i : Int) - (k : Int)) = ((i - k : Nat) : Int) := by rw [IntKind.wrap_i64]; omega
        clear ih h hz hN h0 hx hP s1 s2 HL HH l1 l2 hpl hdl hPl hik
        go_enter Tryd.func64, Tryd.ntmps64
        go_wp2_with (go_at_call 88; refine q0.mono ?_; rintro e w1 ⟨rfl, hw1⟩; have hw1 := hw1.symm; subst hw1)
        refine wp_region_held_drew (S := fun _ => True) (by kernel_rfl) trivial (fun hHeld => ?_)
        (refine wpAnyH_take (i := 0) (v := ?v0x9) rfl (by kernel_rfl) (by kernel_rfl) (by kernel_rfl) (fun _ _ _ h => h) (Or.inl ⟨by rfl, ?hy0x9⟩) (by assumption) ?rest0x9; case hy0x9 => (intro w hSw; (try dsimp only at hSw); go_split_ands; go_simp; (try with_reducible rfl)))
        try simp only [Act.put, List.setIfInBounds_toArray, List.set_cons_zero, List.set_cons_succ, List.getElem_toArray, List.getElem_cons_zero, List.getElem_cons_succ]
        (refine wpAnyH_take (i := 1) (v := ?v1x10) rfl (by kernel_rfl) (by kernel_rfl) (by kernel_rfl) (fun _ _ _ h => h) (Or.inl ⟨by rfl, ?hy1x10⟩) (by assumption) ?rest1x10; case hy1x10 => (intro w hSw; (try dsimp only at hSw); go_split_ands; go_simp; (try with_reducible rfl)))
        try simp only [Act.put, List.setIfInBounds_toArray, List.set_cons_zero, List.set_cons_succ, List.getElem_toArray, List.getElem_cons_zero, List.getElem_cons_succ]
        (refine wpAnyH_take (i := 2) (v := ?v2x11) rfl (by kernel_rfl) (by kernel_rfl) (by kernel_rfl) (fun _ _ _ h => h) (Or.inl ⟨by rfl, ?hy2x11⟩) (by assumption) ?rest2x11; case hy2x11 => (intro w hSw; (try dsimp only at hSw); go_split_ands; go_simp; (try with_reducible rfl)))
        try simp only [Act.put, List.setIfInBounds_toArray, List.set_cons_zero, List.set_cons_succ, List.getElem_toArray, List.getElem_cons_zero, List.getElem_cons_succ]
        (refine wpAnyH_take (i := 3) (v := ?v3x12) rfl (by kernel_rfl) (by kernel_rfl) (by kernel_rfl) (fun _ _ _ h => h) (Or.inl ⟨by rfl, ?hy3x12⟩) (by assumption) ?rest3x12; case hy3x12 => (intro w hSw; (try dsimp only at hSw); go_split_ands; go_simp; (try with_reducible rfl)))
        try simp only [Act.put, List.setIfInBounds_toArray, List.set_cons_zero, List.set_cons_succ, List.getElem_toArray, List.getElem_cons_zero, List.getElem_cons_succ]
        (refine wpAnyH_take (i := 4) (v := ?v4x13) rfl (by kernel_rfl) (by kernel_rfl) (by kernel_rfl) (fun _ _ _ h => h) (Or.inl ⟨by rfl, ?hy4x13⟩) (by assumption) ?rest4x13; case hy4x13 => (intro w hSw; (try dsimp only at hSw); go_split_ands; go_simp; (try with_reducible rfl)))
        try simp only [Act.put, List.setIfInBounds_toArray, List.set_cons_zero, List.set_cons_succ, List.getElem_toArray, List.getElem_cons_zero, List.getElem_cons_succ]
        (refine wpAnyH_take (i := 5) (v := ?v5x14) rfl (by kernel_rfl) (by kernel_rfl) (by kernel_rfl) (fun _ _ _ h => h) (Or.inl ⟨by rfl, ?hy5x14⟩) (by assumption) ?rest5x14; case hy5x14 => (intro w hSw; (try dsimp only at hSw); go_split_ands; go_simp; (try with_reducible rfl)))
        try simp only [Act.put, List.setIfInBounds_toArray, List.set_cons_zero, List.set_cons_succ, List.getElem_toArray, List.getElem_cons_zero, List.getElem_cons_succ]
        (refine wpAnyH_take (i := 7) (v := ?v7x15) rfl (by kernel_rfl) (by kernel_rfl) (by kernel_rfl) (fun _ _ _ h => h) (Or.inl ⟨by rfl, ?hy7x15⟩) (by assumption) ?rest7x15; case hy7x15 => (intro w hSw; (try dsimp only at hSw); go_split_ands; go_simp; (try with_reducible rfl)))
        try simp only [Act.put, List.setIfInBounds_toArray, List.set_cons_zero, List.set_cons_succ, List.getElem_toArray, List.getElem_cons_zero, List.getElem_cons_succ]
        (refine wpAnyH_take (i := 8) (v := ?v8x16) rfl (by kernel_rfl) (by kernel_rfl) (by kernel_rfl) (fun _ _ _ h => h) (Or.inl ⟨by rfl, ?hy8x16⟩) (by assumption) ?rest8x16; case hy8x16 => (intro w hSw; (try dsimp only at hSw); go_split_ands; go_simp; (try with_reducible rfl)))
        try simp only [Act.put, List.setIfInBounds_toArray, List.set_cons_zero, List.set_cons_succ, List.getElem_toArray, List.getElem_cons_zero, List.getElem_cons_succ]
        (refine wpAnyH_take (i := 9) (v := ?v9x17) rfl (by kernel_rfl) (by kernel_rfl) (by kernel_rfl) (fun _ _ _ h => h) (Or.inl ⟨by rfl, ?hy9x17⟩) (by assumption) ?rest9x17; case hy9x17 => (intro w hSw; (try dsimp only at hSw); go_split_ands; go_simp; (try with_reducible rfl)))
        try simp only [Act.put, List.setIfInBounds_toArray, List.set_cons_zero, List.set_cons_succ, List.getElem_toArray, List.getElem_cons_zero, List.getElem_cons_succ]
        refine wpAnyH_ready (rs := [6]) (by kernel_rfl) (by simp) ?_
        refine AllReadyH.cons rfl (fun K hK => ?_) AllReadyH.nil
        go_simp
        refine (q1 _ (Below.drew hB0)).mono ?_
        rintro e w2 ⟨v2, rfl, ho2, b2⟩
        refine hK.out _ _ trivial (fun hHeld => ?_)
        clear hK K
        try simp only [Act.put, List.setIfInBounds_toArray, List.set_cons_zero, List.set_cons_succ, List.getElem_toArray, List.getElem_cons_zero, List.getElem_cons_succ]
        have B2 : Below w.heap.size w w2 := (Below.drew hB0).trans b2
        refine wpAnyH_ready (rs := [10]) (by kernel_rfl) (by simp) ?_
        refine AllReadyH.cons rfl (fun K hK => ?_) AllReadyH.nil
        go_simp
        refine (q2 _ B2).mono ?_
        rintro e w3 ⟨rfl, b3⟩
        refine hK.out _ _ trivial (fun hHeld => ?_)
        clear hK K
        try simp only [Act.put, List.setIfInBounds_toArray, List.set_cons_zero, List.set_cons_succ, List.getElem_toArray, List.getElem_cons_zero, List.getElem_cons_succ]
        have B3 : Below w.heap.size w w3 := B2.trans (b3.mono B2.size)
        have ho4 : ∀ o, Own (w3.alloc o) w.heap.size (w3.alloc o).heap.size 9 v2 (ss P) := fun o => Own.alloc ((Own.later ho2 b3 (Nat.le_refl _)).mono (Nat.le_refl _) b3.size) o
        have c8 : ∀ o, w.heap.size ≤ (w3.alloc o).heap.size := fun o => by have := B3.size; simp; omega
        refine wpAnyH_ready (rs := [11]) (by kernel_rfl) (by simp) ?_
        refine AllReadyH.cons rfl (fun K hK => ?_) AllReadyH.nil
        go_simp
        refine hK.out _ _ trivial (fun hHeld => ?_)
        clear hK K
        try simp only [Act.put, List.setIfInBounds_toArray, List.set_cons_zero, List.set_cons_succ, List.getElem_toArray, List.getElem_cons_zero, List.getElem_cons_succ]
        refine wpAnyH_ready (rs := [12]) (by kernel_rfl) (by simp) ?_
        refine AllReadyH.cons rfl (fun K hK => ?_) AllReadyH.nil
        refine step_app (by rfl) (.tmp 33) (.tmp 38) 24 (by rfl) 9 i0 (.string ⟨#[]⟩) 16 Tryd.underlying24 hi hz0 hz1 hz2 rfl w.heap.size _ _ (by rfl) (ho4 _) _ (by rfl) _ (Laws.Sl.one _ _ _) (oneT _) c6 c7 (c8 _) ?_
        intro v5 w5 ho5 hb5
        refine hK.out _ _ trivial (fun hHeld => ?_)
        clear hK K
        try simp only [Act.put, List.setIfInBounds_toArray, List.set_cons_zero, List.set_cons_succ, List.getElem_toArray, List.getElem_cons_zero, List.getElem_cons_succ]
        have B5 : Below w.heap.size w w5 := (B3.alloc B3.size _).trans hb5
        have ho6 : Own w5 w.heap.size w5.heap.size 9 v5 (ss (P ++ [x])) := by rw [ss_app]; exact ho5
        (refine wpAnyH_take (i := 13) (v := ?v13x18) rfl (by kernel_rfl) (by kernel_rfl) (by kernel_rfl) (fun _ _ _ h => h) (Or.inl ⟨by rfl, ?hy13x18⟩) (by assumption) ?rest13x18; case hy13x18 => (intro w hSw; (try dsimp only at hSw); go_split_ands; go_simp; (try with_reducible rfl)))
        try simp only [Act.put, List.setIfInBounds_toArray, List.set_cons_zero, List.set_cons_succ, List.getElem_toArray, List.getElem_cons_zero, List.getElem_cons_succ]
        refine wpAnyH_done (by kernel_rfl) ?_ _
        clear hHeld
        go_wp2
        go_ret
        exact ⟨v5, rfl, by rw [HP.out]; exact ho6, B5⟩
    · have HN : Hid (path l i = []) := path_no h2 i
      have HO : Hid (Own (w.alloc (.cells #[] 9)) w.heap.size (w.alloc (.cells #[] 9)).heap.size 9 (.slice (some ⟨w.heap.size, 0, none⟩) 0 0) (ss [])) := emptyT w w.heap.size (Nat.le_refl _)
      have HB : Hid (Below w.heap.size w (w.alloc (.cells #[] 9))) := (Below.refl _ _).alloc (Nat.le_refl _) _
      have vv : (l.length : Int) < 2 := by omega
      clear ih h hz
      go_enter Tryd.func64, Tryd.ntmps64
      go_wp2
      go_ret
      exact ⟨_, rfl, by rw [HN.out]; exact HO.out, HB.out⟩

end Go.Proofs.YtccnhhdcdamgmaaDoor.Tr
