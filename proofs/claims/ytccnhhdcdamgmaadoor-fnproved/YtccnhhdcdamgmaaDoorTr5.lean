/- Chapter 6, the specification's side: what tells that a list came of its beginning. -/
import Derived.Test.YtccnhhdcdamgmaaDoorTr4
namespace Go.Proofs.YtccnhhdcdamgmaaDoor.Tr
open Go.RowKit Go.Proofs.YtccnhhdcdamgmaaDoor.Mem Go.Proofs.YtccnhhdcdamgmaaDoor.Laws Go.Proofs.YtccnhhdcdamgmaaDoor.Bytes Go.Proofs.YtccnhhdcdamgmaaDoor.Sha
set_option linter.unusedVariables false
set_option linter.unusedSimpArgs false

theorem oneS (w : World) (lo : Nat) (x : ByteArray) (h : lo ≤ w.heap.size) : Own (w.alloc (.cells #[.string x] 9)) lo (w.alloc (.cells #[.string x] 9)).heap.size 9 (.slice (some ⟨w.heap.size, 0, none⟩) 1 1) (ss [x]) := by
  exact Own.of (World.ownsRow_lit (e := 9) (base := lo) (size := 1) w #[.string x] 1 h (by unfold maxLen; omega) rfl)
theorem gdep_le (m : Nat) : ∀ n whole, gdep n m whole ≤ m + 1 := by
  refine natRec (P := fun m => ∀ n whole, gdep n m whole ≤ m + 1) ?_ m
  intro m ih n whole
  rw [gdep_if]
  split
  · split <;> omega
  · split
    · rename_i h
      have hk := half_ok h
      have hp := half_pos h
      split
      · have := ih (half m) (by omega) n whole; omega
      · have := ih (m - half m) (by omega) (n - half m) false; omega
    · omega

set_option maxRecDepth 1000000 in
set_option maxHeartbeats 4000000 in
theorem grow_any : ∀ (N : Nat) (l : List ByteArray), l.length ≤ N → ∀ (w : World) (v : Value) (n : Nat) (whole : Bool), Sl w v (ss l) → l.length ≤ 1000000 → 1 ≤ n → n ≤ l.length → (∀ s ∈ l, s.size ≤ 10000000000) →
    Calls Tryd.prog 66 #[v, .int .i64 (n : Int), .bool whole] w fun e w' => ∃ v', e = .returned v' ∧ Own w' w.heap.size w'.heap.size 9 v' (ss (grow l n whole)) ∧ Below w.heap.size w w' := by
  intro N
  induction N with
  | zero => intro l hN w v n whole h hl h1 hnl hz; omega
  | succ N ih =>
    intro l hN w v n whole h hl h1 hnl hz
    by_cases h0 : l.length ≤ N
    · exact ih l h0 w v n whole h hl h1 hnl hz
    obtain ⟨b, off, cap, rfl, hcap⟩ := slForm h (by rw [ss_len]; omega)
    rw [ss_len] at h hcap ⊢
    by_cases he : n = l.length
    · have HN : Hid (grow l n whole = if whole = true then [] else [root l]) := by show _ = _; rw [he]; exact grow_all l whole
      have dd : ((n : Int) == (l.length : Int)) = true := by rw [beq_iff_eq]; omega
      cases whole
      · have HG : Hid (grow l n false = [root l]) := by show _ = _; rw [HN.out]; rfl
        have q := root_any l.length l (Nat.le_refl _) w _ h hl hz
        obtain ⟨x, hx⟩ : ∃ x, root l = x := ⟨_, rfl⟩
        rw [hx] at q HG
        clear ih h hz hx HN he
        go_enter Tryd.func66, Tryd.ntmps66
        go_wp2_with fail
        refine q.mono ?_
        rintro e w1 ⟨rfl, b1⟩
        have HO : Hid (Own (w1.alloc (.cells #[.string x] 9)) w.heap.size (w1.alloc (.cells #[.string x] 9)).heap.size 9 (.slice (some ⟨w1.heap.size, 0, none⟩) 1 1) (ss [x])) := oneS w1 w.heap.size x b1.size
        have HB : Hid (Below w.heap.size w (w1.alloc (.cells #[.string x] 9))) := b1.alloc b1.size _
        clear q b1
        go_wp2
        go_ret
        exact ⟨_, rfl, by rw [HG.out]; exact HO.out, HB.out⟩
      · have HG : Hid (grow l n true = []) := by show _ = _; rw [HN.out]; rfl
        have HO : Hid (Own (w.alloc (.cells #[] 9)) w.heap.size (w.alloc (.cells #[] 9)).heap.size 9 (.slice (some ⟨w.heap.size, 0, none⟩) 0 0) (ss [])) := emptyT w w.heap.size (Nat.le_refl _)
        have HB : Hid (Below w.heap.size w (w.alloc (.cells #[] 9))) := (Below.refl _ _).alloc (Nat.le_refl _) _
        clear ih h hz HN he
        go_enter Tryd.func66, Tryd.ntmps66
        go_wp2
        go_ret
        exact ⟨_, rfl, by rw [HG.out]; exact HO.out, HB.out⟩
    · have h2 : 2 ≤ l.length := by omega
      have dd : ((n : Int) == (l.length : Int)) = false := by rw [beq_eq_false_iff_ne]; omega
      obtain ⟨i0, hi, hz0, hz1, hz2⟩ := info_parts info9t
      have hk := half_ok h2
      have hp := half_pos h2
      have HL : Hid (n ≤ half l.length → grow l n whole = grow (l.take (half l.length)) n whole ++ [root (l.drop (half l.length))]) := fun hj => grow_low h2 he hj whole
      have HH : Hid (¬ n ≤ half l.length → grow l n whole = grow (l.drop (half l.length)) (n - half l.length) false ++ [root (l.take (half l.length))]) := fun hj => grow_high h2 he hj whole
      have q0 := half_spec w l.length (by omega)
      obtain ⟨k, hkk⟩ : ∃ k, half l.length = k := ⟨_, rfl⟩
      rw [hkk] at hk hp HL HH q0
      obtain ⟨_, hk1, hk2⟩ := hk
      clear hkk
      have s1 : Sl w (.slice (some ⟨b, off, none⟩) k cap) (ss (l.take k)) := by rw [← ss_take]; exact h.front k (by rw [ss_len]; omega)
      have s2 : Sl w (.slice (some ⟨b, off + k, none⟩) (l.length - k) (cap - k)) (ss (l.drop k)) := by rw [← ss_drop]; exact slBack h k (by rw [ss_len]; omega)
      have l1 : (l.take k).length = k := by rw [List.length_take]; omega
      have l2 : (l.drop k).length = l.length - k := by rw [List.length_drop]
      have v1 : (k : Int) ≤ (l.length : Int) := by omega
      have v2 : (k : Int) ≤ (cap : Int) := by omega
      have v3 : (l.length : Int) ≤ (cap : Int) := by omega
      have vne : ¬ cap = k := by omega
      have hB0 : Below w.heap.size w w := Below.refl _ _
      by_cases hik : n ≤ k
      · have HP : Hid (grow l n whole = grow (l.take k) n whole ++ [root (l.drop k)]) := HL.out hik
        have q1 : ∀ W, Below w.heap.size w W → _ := fun W hW => ih (l.take k) (by omega) W _ n whole (s1.later hW) (by omega) h1 (by omega) (fun s hs => hz s (List.mem_of_mem_take hs))
        have q2 : ∀ W, Below w.heap.size w W → _ := fun W hW => root_any l.length (l.drop k) (by omega) W _ (s2.later hW) (by omega) (fun s hs => hz s (List.mem_of_mem_drop hs))
        have hpl := grow_len (l.take k) n whole
        have hdl := gdep_le (l.take k).length n whole
        obtain ⟨x, hx⟩ : ∃ x, root (l.drop k) = x := ⟨_, rfl⟩
        obtain ⟨P, hP⟩ : ∃ x, grow (l.take k) n whole = x := ⟨_, rfl⟩
        rw [hx, hP] at HP
        rw [hP] at hpl
        simp only [hP] at q1
        simp only [hx] at q2
        have hPl : P.length ≤ 1000001 := by omega
        have c6 : (ss P).length + 1 ≤ maxLen := by rw [ss_len]; unfold maxLen; omega
        have c7 : ((ss P).length + 1) * 16 ≤ 140737488355328 := by rw [ss_len]; omega
        have hik' : (n : Int) ≤ (k : Int) := by omega
        clear ih h hz hN h0 hx hP s1 s2 HL HH l1 l2 hpl hdl hPl hik he
        go_enter Tryd.func66, Tryd.ntmps66
        go_wp2_with (go_at_call 88; refine q0.mono ?_; rintro e w1 ⟨rfl, hw1⟩; have hw1 := hw1.symm; subst hw1)
        refine wp_region_held_drew (S := fun _ => True) (by kernel_rfl) trivial (fun hHeld => ?_)
        (refine wpAnyH_take (i := 0) (v := ?v0x1) rfl (by kernel_rfl) (by kernel_rfl) (by kernel_rfl) (fun _ _ _ h => h) (Or.inl ⟨by rfl, ?hy0x1⟩) (by assumption) ?rest0x1; case hy0x1 => (intro w hSw; (try dsimp only at hSw); go_split_ands; go_simp; (try with_reducible rfl)))
        try simp only [Act.put, List.setIfInBounds_toArray, List.set_cons_zero, List.set_cons_succ, List.getElem_toArray, List.getElem_cons_zero, List.getElem_cons_succ]
        (refine wpAnyH_take (i := 1) (v := ?v1x2) rfl (by kernel_rfl) (by kernel_rfl) (by kernel_rfl) (fun _ _ _ h => h) (Or.inl ⟨by rfl, ?hy1x2⟩) (by assumption) ?rest1x2; case hy1x2 => (intro w hSw; (try dsimp only at hSw); go_split_ands; go_simp; (try with_reducible rfl)))
        try simp only [Act.put, List.setIfInBounds_toArray, List.set_cons_zero, List.set_cons_succ, List.getElem_toArray, List.getElem_cons_zero, List.getElem_cons_succ]
        (refine wpAnyH_take (i := 2) (v := ?v2x3) rfl (by kernel_rfl) (by kernel_rfl) (by kernel_rfl) (fun _ _ _ h => h) (Or.inl ⟨by rfl, ?hy2x3⟩) (by assumption) ?rest2x3; case hy2x3 => (intro w hSw; (try dsimp only at hSw); go_split_ands; go_simp; (try with_reducible rfl)))
        try simp only [Act.put, List.setIfInBounds_toArray, List.set_cons_zero, List.set_cons_succ, List.getElem_toArray, List.getElem_cons_zero, List.getElem_cons_succ]
        (refine wpAnyH_take (i := 3) (v := ?v3x4) rfl (by kernel_rfl) (by kernel_rfl) (by kernel_rfl) (fun _ _ _ h => h) (Or.inl ⟨by rfl, ?hy3x4⟩) (by assumption) ?rest3x4; case hy3x4 => (intro w hSw; (try dsimp only at hSw); go_split_ands; go_simp; (try with_reducible rfl)))
        try simp only [Act.put, List.setIfInBounds_toArray, List.set_cons_zero, List.set_cons_succ, List.getElem_toArray, List.getElem_cons_zero, List.getElem_cons_succ]
        (refine wpAnyH_take (i := 4) (v := ?v4x5) rfl (by kernel_rfl) (by kernel_rfl) (by kernel_rfl) (fun _ _ _ h => h) (Or.inl ⟨by rfl, ?hy4x5⟩) (by assumption) ?rest4x5; case hy4x5 => (intro w hSw; (try dsimp only at hSw); go_split_ands; go_simp; (try with_reducible rfl)))
        try simp only [Act.put, List.setIfInBounds_toArray, List.set_cons_zero, List.set_cons_succ, List.getElem_toArray, List.getElem_cons_zero, List.getElem_cons_succ]
        (refine wpAnyH_take (i := 6) (v := ?v6x6) rfl (by kernel_rfl) (by kernel_rfl) (by kernel_rfl) (fun _ _ _ h => h) (Or.inl ⟨by rfl, ?hy6x6⟩) (by assumption) ?rest6x6; case hy6x6 => (intro w hSw; (try dsimp only at hSw); go_split_ands; go_simp; (try with_reducible rfl)))
        try simp only [Act.put, List.setIfInBounds_toArray, List.set_cons_zero, List.set_cons_succ, List.getElem_toArray, List.getElem_cons_zero, List.getElem_cons_succ]
        (refine wpAnyH_take (i := 7) (v := ?v7x7) rfl (by kernel_rfl) (by kernel_rfl) (by kernel_rfl) (fun _ _ _ h => h) (Or.inl ⟨by rfl, ?hy7x7⟩) (by assumption) ?rest7x7; case hy7x7 => (intro w hSw; (try dsimp only at hSw); go_split_ands; go_simp; (try with_reducible rfl)))
        try simp only [Act.put, List.setIfInBounds_toArray, List.set_cons_zero, List.set_cons_succ, List.getElem_toArray, List.getElem_cons_zero, List.getElem_cons_succ]
        (refine wpAnyH_take (i := 8) (v := ?v8x8) rfl (by kernel_rfl) (by kernel_rfl) (by kernel_rfl) (fun _ _ _ h => h) (Or.inl ⟨by rfl, ?hy8x8⟩) (by assumption) ?rest8x8; case hy8x8 => (intro w hSw; (try dsimp only at hSw); go_split_ands; go_simp; (try with_reducible rfl)))
        try simp only [Act.put, List.setIfInBounds_toArray, List.set_cons_zero, List.set_cons_succ, List.getElem_toArray, List.getElem_cons_zero, List.getElem_cons_succ]
        refine wpAnyH_ready (rs := [5]) (by kernel_rfl) (by simp) ?_
        refine AllReadyH.cons rfl (fun K hK => ?_) AllReadyH.nil
        go_simp
        refine (q1 _ (Below.drew hB0)).mono ?_
        rintro e w2 ⟨v2, rfl, ho2, b2⟩
        refine hK.out _ _ trivial (fun hHeld => ?_)
        clear hK K
        try simp only [Act.put, List.setIfInBounds_toArray, List.set_cons_zero, List.set_cons_succ, List.getElem_toArray, List.getElem_cons_zero, List.getElem_cons_succ]
        have B2 : Below w.heap.size w w2 := (Below.drew hB0).trans b2
        refine wpAnyH_ready (rs := [9]) (by kernel_rfl) (by simp) ?_
        refine AllReadyH.cons rfl (fun K hK => ?_) AllReadyH.nil
        go_simp
        refine (q2 _ B2).mono ?_
        rintro e w3 ⟨rfl, b3⟩
        refine hK.out _ _ trivial (fun hHeld => ?_)
        clear hK K
        try simp only [Act.put, List.setIfInBounds_toArray, List.set_cons_zero, List.set_cons_succ, List.getElem_toArray, List.getElem_cons_zero, List.getElem_cons_succ]
        have B3 : Below w.heap.size w w3 := B2.trans (b3.mono B2.size)
        have ho4 : ∀ o, Own (w3.alloc o) w.heap.size (w3.alloc o).heap.size 9 v2 (ss P) := fun o => Own.alloc ((Own.later ho2 b3 (Nat.le_refl _)).mono (Nat.le_refl _) b3.size) o
        have c8 : ∀ o, w.heap.size ≤ (w3.alloc o).heap.size := fun o => by have := B3.size; simp; omega
        refine wpAnyH_ready (rs := [10]) (by kernel_rfl) (by simp) ?_
        refine AllReadyH.cons rfl (fun K hK => ?_) AllReadyH.nil
        go_simp
        refine hK.out _ _ trivial (fun hHeld => ?_)
        clear hK K
        try simp only [Act.put, List.setIfInBounds_toArray, List.set_cons_zero, List.set_cons_succ, List.getElem_toArray, List.getElem_cons_zero, List.getElem_cons_succ]
        refine wpAnyH_ready (rs := [11]) (by kernel_rfl) (by simp) ?_
        refine AllReadyH.cons rfl (fun K hK => ?_) AllReadyH.nil
        refine step_app (by rfl) (.tmp 28) (.tmp 33) 24 (by rfl) 9 i0 (.string ⟨#[]⟩) 16 Tryd.underlying24 hi hz0 hz1 hz2 rfl w.heap.size _ _ (by rfl) (ho4 _) _ (by rfl) _ (Laws.Sl.one _ _ _) (oneT _) c6 c7 (c8 _) ?_
        intro v5 w5 ho5 hb5
        refine hK.out _ _ trivial (fun hHeld => ?_)
        clear hK K
        try simp only [Act.put, List.setIfInBounds_toArray, List.set_cons_zero, List.set_cons_succ, List.getElem_toArray, List.getElem_cons_zero, List.getElem_cons_succ]
        have B5 : Below w.heap.size w w5 := (B3.alloc B3.size _).trans hb5
        have ho6 : Own w5 w.heap.size w5.heap.size 9 v5 (ss (P ++ [x])) := by rw [ss_app]; exact ho5
        (refine wpAnyH_take (i := 12) (v := ?v12x9) rfl (by kernel_rfl) (by kernel_rfl) (by kernel_rfl) (fun _ _ _ h => h) (Or.inl ⟨by rfl, ?hy12x9⟩) (by assumption) ?rest12x9; case hy12x9 => (intro w hSw; (try dsimp only at hSw); go_split_ands; go_simp; (try with_reducible rfl)))
        try simp only [Act.put, List.setIfInBounds_toArray, List.set_cons_zero, List.set_cons_succ, List.getElem_toArray, List.getElem_cons_zero, List.getElem_cons_succ]
        refine wpAnyH_done (by kernel_rfl) ?_ _
        clear hHeld
        go_wp2
        go_ret
        exact ⟨v5, rfl, by rw [HP.out]; exact ho6, B5⟩
      · have HP : Hid (grow l n whole = grow (l.drop k) (n - k) false ++ [root (l.take k)]) := HH.out hik
        have q1 : ∀ W, Below w.heap.size w W → _ := fun W hW => ih (l.drop k) (by omega) W _ (n - k) false (s2.later hW) (by omega) (by omega) (by omega) (fun s hs => hz s (List.mem_of_mem_drop hs))
        have q2 : ∀ W, Below w.heap.size w W → _ := fun W hW => root_any l.length (l.take k) (by omega) W _ (s1.later hW) (by omega) (fun s hs => hz s (List.mem_of_mem_take hs))
        have hpl := grow_len (l.drop k) (n - k) false
        have hdl := gdep_le (l.drop k).length (n - k) false
        obtain ⟨x, hx⟩ : ∃ x, root (l.take k) = x := ⟨_, rfl⟩
        obtain ⟨P, hP⟩ : ∃ x, grow (l.drop k) (n - k) false = x := ⟨_, rfl⟩
        rw [hx, hP] at HP
        rw [hP] at hpl
        simp only [hP] at q1
        simp only [hx] at q2
        have hPl : P.length ≤ 1000001 := by omega
        have c6 : (ss P).length + 1 ≤ maxLen := by rw [ss_len]; unfold maxLen; omega
        have c7 : ((ss P).length + 1) * 16 ≤ 140737488355328 := by rw [ss_len]; omega
        have hik' : ¬ (n : Int) ≤ (k : Int) := by omega
        have hwr : IntKind.i64.wrap ((n : Int) - (k : Int)) = ((n - k : Nat) : Int) := by rw [IntKind.wrap_i64]; omega
        clear ih h hz hN h0 hx hP s1 s2 HL HH l1 l2 hpl hdl hPl hik he
        go_enter Tryd.func66, Tryd.ntmps66
        go_wp2_with (go_at_call 88; refine q0.mono ?_; rintro e w1 ⟨rfl, hw1⟩; have hw1 := hw1.symm; subst hw1)
        refine wp_region_held_drew (S := fun _ => True) (by kernel_rfl) trivial (fun hHeld => ?_)
        (refine wpAnyH_take (i := 0) (v := ?v0x10) rfl (by kernel_rfl) (by kernel_rfl) (by kernel_rfl) (fun _ _ _ h => h) (Or.inl ⟨by rfl, ?hy0x10⟩) (by assumption) ?rest0x10; case hy0x10 => (intro w hSw; (try dsimp only at hSw); go_split_ands; go_simp; (try with_reducible rfl)))
        try simp only [Act.put, List.setIfInBounds_toArray, List.set_cons_zero, List.set_cons_succ, List.getElem_toArray, List.getElem_cons_zero, List.getElem_cons_succ]
        (refine wpAnyH_take (i := 1) (v := ?v1x11) rfl (by kernel_rfl) (by kernel_rfl) (by kernel_rfl) (fun _ _ _ h => h) (Or.inl ⟨by rfl, ?hy1x11⟩) (by assumption) ?rest1x11; case hy1x11 => (intro w hSw; (try dsimp only at hSw); go_split_ands; go_simp; (try with_reducible rfl)))
        try simp only [Act.put, List.setIfInBounds_toArray, List.set_cons_zero, List.set_cons_succ, List.getElem_toArray, List.getElem_cons_zero, List.getElem_cons_succ]
        (refine wpAnyH_take (i := 2) (v := ?v2x12) rfl (by kernel_rfl) (by kernel_rfl) (by kernel_rfl) (fun _ _ _ h => h) (Or.inl ⟨by rfl, ?hy2x12⟩) (by assumption) ?rest2x12; case hy2x12 => (intro w hSw; (try dsimp only at hSw); go_split_ands; go_simp; (try with_reducible rfl)))
        try simp only [Act.put, List.setIfInBounds_toArray, List.set_cons_zero, List.set_cons_succ, List.getElem_toArray, List.getElem_cons_zero, List.getElem_cons_succ]
        (refine wpAnyH_take (i := 3) (v := ?v3x13) rfl (by kernel_rfl) (by kernel_rfl) (by kernel_rfl) (fun _ _ _ h => h) (Or.inl ⟨by rfl, ?hy3x13⟩) (by assumption) ?rest3x13; case hy3x13 => (intro w hSw; (try dsimp only at hSw); go_split_ands; go_simp; (try with_reducible rfl)))
        try simp only [Act.put, List.setIfInBounds_toArray, List.set_cons_zero, List.set_cons_succ, List.getElem_toArray, List.getElem_cons_zero, List.getElem_cons_succ]
        (refine wpAnyH_take (i := 4) (v := ?v4x14) rfl (by kernel_rfl) (by kernel_rfl) (by kernel_rfl) (fun _ _ _ h => h) (Or.inl ⟨by rfl, ?hy4x14⟩) (by assumption) ?rest4x14; case hy4x14 => (intro w hSw; (try dsimp only at hSw); go_split_ands; go_simp; (try with_reducible rfl)))
        try simp only [Act.put, List.setIfInBounds_toArray, List.set_cons_zero, List.set_cons_succ, List.getElem_toArray, List.getElem_cons_zero, List.getElem_cons_succ]
        (refine wpAnyH_take (i := 5) (v := ?v5x15) rfl (by kernel_rfl) (by kernel_rfl) (by kernel_rfl) (fun _ _ _ h => h) (Or.inl ⟨by rfl, ?hy5x15⟩) (by assumption) ?rest5x15; case hy5x15 => (intro w hSw; (try dsimp only at hSw); go_split_ands; go_simp; (try with_reducible rfl)))
        try simp only [Act.put, List.setIfInBounds_toArray, List.set_cons_zero, List.set_cons_succ, List.getElem_toArray, List.getElem_cons_zero, List.getElem_cons_succ]
        (refine wpAnyH_take (i := 7) (v := ?v7x16) rfl (by kernel_rfl) (by kernel_rfl) (by kernel_rfl) (fun _ _ _ h => h) (Or.inl ⟨by rfl, ?hy7x16⟩) (by assumption) ?rest7x16; case hy7x16 => (intro w hSw; (try dsimp only at hSw); go_split_ands; go_simp; (try with_reducible rfl)))
        try simp only [Act.put, List.setIfInBounds_toArray, List.set_cons_zero, List.set_cons_succ, List.getElem_toArray, List.getElem_cons_zero, List.getElem_cons_succ]
        (refine wpAnyH_take (i := 8) (v := ?v8x17) rfl (by kernel_rfl) (by kernel_rfl) (by kernel_rfl) (fun _ _ _ h => h) (Or.inl ⟨by rfl, ?hy8x17⟩) (by assumption) ?rest8x17; case hy8x17 => (intro w hSw; (try dsimp only at hSw); go_split_ands; go_simp; (try with_reducible rfl)))
        try simp only [Act.put, List.setIfInBounds_toArray, List.set_cons_zero, List.set_cons_succ, List.getElem_toArray, List.getElem_cons_zero, List.getElem_cons_succ]
        (refine wpAnyH_take (i := 9) (v := ?v9x18) rfl (by kernel_rfl) (by kernel_rfl) (by kernel_rfl) (fun _ _ _ h => h) (Or.inl ⟨by rfl, ?hy9x18⟩) (by assumption) ?rest9x18; case hy9x18 => (intro w hSw; (try dsimp only at hSw); go_split_ands; go_simp; (try with_reducible rfl)))
        try simp only [Act.put, List.setIfInBounds_toArray, List.set_cons_zero, List.set_cons_succ, List.getElem_toArray, List.getElem_cons_zero, List.getElem_cons_succ]
        refine wpAnyH_ready (rs := [6]) (by kernel_rfl) (by simp) ?_
        refine AllReadyH.cons rfl (fun K hK => ?_) AllReadyH.nil
        go_simp
        refine (q1 _ (Below.drew hB0)).mono ?_
        rintro e w2 ⟨v2, rfl, ho2, b2⟩
        refine hK.out _ _ trivial (fun hHeld => ?_)
        clear hK K
        try simp only [Act.put, List.setIfInBounds_toArray, List.set_cons_zero, List.set_cons_succ, List.getElem_toArray, List.getElem_cons_zero, List.getElem_cons_succ]
        have B2 : Below w.heap.size w w2 := (Below.drew hB0).trans b2
        refine wpAnyH_ready (rs := [10]) (by kernel_rfl) (by simp) ?_
        refine AllReadyH.cons rfl (fun K hK => ?_) AllReadyH.nil
        go_simp
        refine (q2 _ B2).mono ?_
        rintro e w3 ⟨rfl, b3⟩
        refine hK.out _ _ trivial (fun hHeld => ?_)
        clear hK K
        try simp only [Act.put, List.setIfInBounds_toArray, List.set_cons_zero, List.set_cons_succ, List.getElem_toArray, List.getElem_cons_zero, List.getElem_cons_succ]
        have B3 : Below w.heap.size w w3 := B2.trans (b3.mono B2.size)
        have ho4 : ∀ o, Own (w3.alloc o) w.heap.size (w3.alloc o).heap.size 9 v2 (ss P) := fun o => Own.alloc ((Own.later ho2 b3 (Nat.le_refl _)).mono (Nat.le_refl _) b3.size) o
        have c8 : ∀ o, w.heap.size ≤ (w3.alloc o).heap.size := fun o => by have := B3.size; simp; omega
        refine wpAnyH_ready (rs := [11]) (by kernel_rfl) (by simp) ?_
        refine AllReadyH.cons rfl (fun K hK => ?_) AllReadyH.nil
        go_simp
        refine hK.out _ _ trivial (fun hHeld => ?_)
        clear hK K
        try simp only [Act.put, List.setIfInBounds_toArray, List.set_cons_zero, List.set_cons_succ, List.getElem_toArray, List.getElem_cons_zero, List.getElem_cons_succ]
        refine wpAnyH_ready (rs := [12]) (by kernel_rfl) (by simp) ?_
        refine AllReadyH.cons rfl (fun K hK => ?_) AllReadyH.nil
        refine step_app (by rfl) (.tmp 41) (.tmp 46) 24 (by rfl) 9 i0 (.string ⟨#[]⟩) 16 Tryd.underlying24 hi hz0 hz1 hz2 rfl w.heap.size _ _ (by rfl) (ho4 _) _ (by rfl) _ (Laws.Sl.one _ _ _) (oneT _) c6 c7 (c8 _) ?_
        intro v5 w5 ho5 hb5
        refine hK.out _ _ trivial (fun hHeld => ?_)
        clear hK K
        try simp only [Act.put, List.setIfInBounds_toArray, List.set_cons_zero, List.set_cons_succ, List.getElem_toArray, List.getElem_cons_zero, List.getElem_cons_succ]
        have B5 : Below w.heap.size w w5 := (B3.alloc B3.size _).trans hb5
        have ho6 : Own w5 w.heap.size w5.heap.size 9 v5 (ss (P ++ [x])) := by rw [ss_app]; exact ho5
        (refine wpAnyH_take (i := 13) (v := ?v13x19) rfl (by kernel_rfl) (by kernel_rfl) (by kernel_rfl) (fun _ _ _ h => h) (Or.inl ⟨by rfl, ?hy13x19⟩) (by assumption) ?rest13x19; case hy13x19 => (intro w hSw; (try dsimp only at hSw); go_split_ands; go_simp; (try with_reducible rfl)))
        try simp only [Act.put, List.setIfInBounds_toArray, List.set_cons_zero, List.set_cons_succ, List.getElem_toArray, List.getElem_cons_zero, List.getElem_cons_succ]
        refine wpAnyH_done (by kernel_rfl) ?_ _
        clear hHeld
        go_wp2
        go_ret
        exact ⟨v5, rfl, by rw [HP.out]; exact ho6, B5⟩

end Go.Proofs.YtccnhhdcdamgmaaDoor.Tr
