/- Chapter 7, the specification's side: the edge of texts; its root. -/
import Derived.Test.YthbonifpdpknnaaDoorEd4
namespace Go.Proofs.YthbonifpdpknnaaDoor.Ed
open Go.RowKit Go.Proofs.YthbonifpdpknnaaDoor.Mem Go.Proofs.YthbonifpdpknnaaDoor.Laws Go.Proofs.YthbonifpdpknnaaDoor.Bytes Go.Proofs.YthbonifpdpknnaaDoor.Sha Go.Proofs.YthbonifpdpknnaaDoor.Tr
set_option linter.unusedVariables false
set_option linter.unusedSimpArgs false

theorem nil9 (w : World) (lo hi : Nat) : Own w lo hi 9 (.slice none 0 0) (ss []) :=
  ⟨World.ownsRow_nil w lo 9 1, fun g hg => by simp [Value.ownBlock] at hg⟩

set_option maxRecDepth 1000000 in
set_option maxHeartbeats 4000000 in
theorem of_spec (w : World) (v : Value) (l : List ByteArray) (h : Sl w v (ss l)) (hl : l.length ≤ 1000000000000) (hz : ∀ s ∈ l, s.size ≤ 10000000000) :
    Calls Tryd.prog 47 #[v] w fun e w' => ∃ v', e = .returned (.agg #[.int .i64 ((edgeOf l).1 : Int), v']) ∧ Own w' w.heap.size w'.heap.size 9 v' (ss (edgeOf l).2) ∧ Below w.heap.size w w' := by
  obtain ⟨W, hW⟩ : ∃ W, W = ((w.alloc (.cells #[.int .i64 0, .slice none 0 0] 34)).alloc (.cells #[.int .i64 0, .slice none 0 0] 34)) := ⟨_, rfl⟩
  have r0 : W.heap[w.heap.size]? = some (.cells (ee 0 (.slice none 0 0)) 34 (0, 0)) := by rw [hW]; exact heap_alloc2_old w _ _
  have r1 : W.heap[w.heap.size + 1]? = some (.cells (ee 0 (.slice none 0 0)) 34 (0, 0)) := by
    rw [hW]
    have := heap_alloc_new (w.alloc (.cells #[.int .i64 0, .slice none 0 0] 34)) (.cells #[.int .i64 0, .slice none 0 0] 34)
    simpa [ee] using this
  have hB : Below w.heap.size w W := by rw [hW]; exact ((Below.refl _ _).alloc (Nat.le_refl _) _).alloc (by simp) _
  have hz2' : w.heap.size + 2 ≤ W.heap.size := by rw [hW]; simp
  have HS : Hid (Sl w v (ss l)) := h
  have HR0 : Hid _ := r0
  have HR1 : Hid _ := r1
  have HB : Hid _ := hB
  have HZ : Hid _ := hz2'
  have HW : Hid _ := hW
  obtain ⟨ao, cap, rfl, hcap⟩ := h.form
  rw [ss_len] at *
  clear hW r0 r1 hB hz2' h
  by_cases h200 : l.length ≤ 200
  · have HN : Hid (edgeOf l = (l.length, edge l)) := by show _ = _; unfold edgeOf; rw [if_pos h200]
    have h200' : (l.length : Int) ≤ 200 := by omega
    go_enter Tryd.func47, Tryd.ntmps47
    go_wp2
    rw [← HW.out]
    go_loopw [4] (fun i wr => ∃ (k : Nat) (vk : Value), k ≤ l.length ∧ i = .int .i64 (k : Int) ∧ Hid (wr.heap[w.heap.size + 1]? = some (.cells (ee (k : Int) vk) 34 (0, 0))) ∧ Hid (wr.heap[w.heap.size]? = some (.cells (ee 0 (.slice none 0 0)) 34 (0, 0))) ∧ Hid (Own wr (w.heap.size + 2) wr.heap.size 9 vk (ss (edge (l.take k)))) ∧ Hid (w.heap.size + 2 ≤ wr.heap.size) ∧ Hid (Below w.heap.size w wr)) (fun i _ => l.length - (intOf i).toNat)
    case atStart => exact ⟨0, .slice none 0 0, Nat.zero_le _, rfl, HR1, HR0, by show Own _ _ _ _ _ _; rw [List.take_zero, edge_nil]; exact nil9 _ _ _, HZ, HB⟩
    case round =>
      obtain ⟨k, vk, hk, rfl, HK, HK0, HO, HZr, HBr⟩ := hrel
      clear HR0 HR1 HZ HB HW
      obtain ⟨aok, Lk, capk, rfl, hk1, hk2⟩ := HO.out.form
      by_cases hlt : k < l.length
      · obtain ⟨s, hs0⟩ : ∃ s, l[k]? = some s := ⟨l[k], by simp⟩
        have hlt' : (k : Int) < (l.length : Int) := by omega
        obtain ⟨b, off, rfl, hcell⟩ : ∃ b off, ao = some ⟨b, off, none⟩ ∧ wr.cell? ⟨b, off + k, none⟩ = some (.string s) := by
          obtain ⟨ao', c', he, _, _, hr⟩ := HS.out.later HBr.out
          rw [ss_len] at he hr
          simp only [Value.slice.injEq] at he
          obtain ⟨rfl, _, rfl⟩ := he
          obtain ⟨b, off, he, hc⟩ := hr (by omega)
          exact ⟨b, off, he, by rw [hc k hlt]; simp [ss, hs0]⟩
        have hls : (l.take k).length = k := by rw [List.length_take]; omega
        have HT : Hid (edge (l.take (k + 1)) = carry k (edge (l.take k)) (leafH s)) := by
          show _ = _
          rw [List.take_add_one, hs0]
          show edge (l.take k ++ [s]) = _
          rw [← carry_one, hls]
        have q : ∀ W, Sl W _ (ss (edge (l.take k))) → _ := fun W hW => add1_spec W k (.slice aok Lk capk) (edge (l.take k)) s hW (by omega) (by rw [edge_len, hls]) (edge_sizes _) (hz s (List.mem_of_getElem? hs0))
        have k0 : wr.cell? ⟨w.heap.size + 1, 0, none⟩ = some (.int .i64 (k : Int)) := row_at HK.out 0
        have k1 : wr.cell? ⟨w.heap.size + 1, 1, none⟩ = some (.slice aok Lk capk) := row_at HK.out 1
        have q := q wr.drew (Sl.quiet HO.out.sl 1)
        clear hs0 hls hk1 hk2
        go_wp2_with fail
        refine wp_region_held_drew (S := fun _ => True) (by kernel_rfl) trivial (fun hHeld => ?_)
        (refine wpAnyH_take (i := 1) (v := ?v1x1) rfl (by kernel_rfl) (by kernel_rfl) (by kernel_rfl) (fun _ _ _ h => h) (Or.inl ⟨by rfl, ?hy1x1⟩) (by assumption) ?rest1x1; case hy1x1 => (intro w hSw; (try dsimp only at hSw); go_split_ands; go_simp; (try with_reducible rfl)))
        try simp only [Act.put, List.setIfInBounds_toArray, List.set_cons_zero, List.set_cons_succ, List.getElem_toArray, List.getElem_cons_zero, List.getElem_cons_succ]
        (refine wpAnyH_take (i := 2) (v := ?v2x2) rfl (by kernel_rfl) (by kernel_rfl) (by kernel_rfl) (fun _ _ _ h => h) (Or.inl ⟨by rfl, ?hy2x2⟩) (by assumption) ?rest2x2; case hy2x2 => (intro w hSw; (try dsimp only at hSw); go_split_ands; go_simp; (try with_reducible rfl)))
        try simp only [Act.put, List.setIfInBounds_toArray, List.set_cons_zero, List.set_cons_succ, List.getElem_toArray, List.getElem_cons_zero, List.getElem_cons_succ]
        (refine wpAnyH_take (i := 3) (v := ?v3x3) rfl (by kernel_rfl) (by kernel_rfl) (by kernel_rfl) (fun _ _ _ h => h) (Or.inl ⟨by rfl, ?hy3x3⟩) (by assumption) ?rest3x3; case hy3x3 => (intro w hSw; (try dsimp only at hSw); go_split_ands; go_simp; (try with_reducible rfl)))
        try simp only [Act.put, List.setIfInBounds_toArray, List.set_cons_zero, List.set_cons_succ, List.getElem_toArray, List.getElem_cons_zero, List.getElem_cons_succ]
        refine wpAnyH_ready (rs := [0, 4]) (by kernel_rfl) (by simp) ?_
        refine AllReadyH.cons rfl (fun K hK => ?_) (AllReadyH.cons rfl (fun K hK => ?_) AllReadyH.nil)
        · go_simp
          refine hK.out _ _ trivial (fun hHeld => ?_)
          clear hK K
          try simp only [Act.put, List.setIfInBounds_toArray, List.set_cons_zero, List.set_cons_succ, List.getElem_toArray, List.getElem_cons_zero, List.getElem_cons_succ]
          refine wpAnyH_ready (rs := [4]) (by kernel_rfl) (by simp) ?_
          refine AllReadyH.cons rfl (fun K hK => ?_) AllReadyH.nil
          go_simp
          refine hK.out _ _ trivial (fun hHeld => ?_)
          clear hK K
          try simp only [Act.put, List.setIfInBounds_toArray, List.set_cons_zero, List.set_cons_succ, List.getElem_toArray, List.getElem_cons_zero, List.getElem_cons_succ]
          refine wpAnyH_ready (rs := [5]) (by kernel_rfl) (by simp) ?_
          refine AllReadyH.cons rfl (fun K hK => ?_) AllReadyH.nil
          go_simp
          refine q.mono ?_
          rintro e w2 ⟨v2, rfl, o2, b2⟩
          refine hK.out _ _ trivial (fun hHeld => ?_)
          clear hK K
          try simp only [Act.put, List.setIfInBounds_toArray, List.set_cons_zero, List.set_cons_succ, List.getElem_toArray, List.getElem_cons_zero, List.getElem_cons_succ]
          have J1 : w2.heap[w.heap.size + 1]? = some (.cells (ee (k : Int) (.slice aok Lk capk)) 34 (0, 0)) := rowKeep (w := wr.drew) HK.out b2
          have J0 : w2.heap[w.heap.size]? = some (.cells (ee 0 (.slice none 0 0)) 34 (0, 0)) := rowKeep (w := wr.drew) HK0.out b2
          have JB : Below w.heap.size w w2 := (Below.drew HBr.out).trans (b2.mono (Below.drew HBr.out).size)
          have z2 : w.heap.size + 2 ≤ w2.heap.size := Nat.le_trans HZr.out b2.size
          have o2 : Own w2 (w.heap.size + 2) w2.heap.size 9 v2 (ss (carry k (edge (l.take k)) (leafH s))) := o2.mono HZr.out (Nat.le_refl _)
          obtain ⟨ao2, L2, cap2, rfl, _, _⟩ := o2.form
          refine wpAnyH_ready (rs := [6]) (by kernel_rfl) (by simp) ?_
          refine AllReadyH.cons rfl (fun K hK => ?_) AllReadyH.nil
          rw [if_pos (by rfl)]
          refine wp_store_row 34 _ _ rfl (w.heap.size + 1) (ee ((k : Int) + 1) (.slice ao2 L2 cap2)) rfl rfl 34 _ J1 (sizeEd _ _) rfl (oneEd _ (Own.one (by assumption))) ?_
          refine hK.out _ _ trivial (fun hHeld => ?_)
          clear hK K
          try simp only [Act.put, List.setIfInBounds_toArray, List.set_cons_zero, List.set_cons_succ, List.getElem_toArray, List.getElem_cons_zero, List.getElem_cons_succ]
          refine wpAnyH_done (by kernel_rfl) ?_ _
          clear hHeld
          have hne : w.heap.size ≠ w.heap.size + 1 := by omega
          have P1 : Hid ((w2.setRow (w.heap.size + 1) (ee ((k : Int) + 1) (.slice ao2 L2 cap2))).heap[w.heap.size + 1]? = some (.cells (ee ((k + 1 : Nat) : Int) (.slice ao2 L2 cap2)) 34 (0, 0))) := setRow_heap _ _ _ _ _ (0, 0) J1
          have P0 : Hid ((w2.setRow (w.heap.size + 1) (ee ((k : Int) + 1) (.slice ao2 L2 cap2))).heap[w.heap.size]? = some (.cells (ee 0 (.slice none 0 0)) 34 (0, 0))) := (setRow_other _ _ _ _ hne).trans J0
          have PO : Hid (Own (w2.setRow (w.heap.size + 1) (ee ((k : Int) + 1) (.slice ao2 L2 cap2))) (w.heap.size + 2) (w2.setRow (w.heap.size + 1) (ee ((k : Int) + 1) (.slice ao2 L2 cap2))).heap.size 9 (.slice ao2 L2 cap2) (ss (edge (l.take (k + 1))))) := by
            show Own _ _ _ _ _ _
            rw [HT.out]
            exact (o2.setRow _ (by omega)).mono (Nat.le_refl _) (by simp)
          have PZ : Hid (w.heap.size + 2 ≤ (w2.setRow (w.heap.size + 1) (ee ((k : Int) + 1) (.slice ao2 L2 cap2))).heap.size) := by show _ ≤ _; simp; exact z2
          have PB : Hid (Below w.heap.size w (w2.setRow (w.heap.size + 1) (ee ((k : Int) + 1) (.slice ao2 L2 cap2)))) := below_setRow JB (by omega) _
          clear J0 J1 JB z2 o2 b2 k0 k1 HK HK0 HO HZr HBr hcell HT hne
          obtain ⟨w3, hw3⟩ : ∃ w3, w2.setRow (w.heap.size + 1) (ee ((k : Int) + 1) (.slice ao2 L2 cap2)) = w3 := ⟨_, rfl⟩
          rw [hw3] at P1 P0 PO PZ PB ⊢
          clear hw3
          go_wp2
          go_roundw
          case rel => exact ⟨k + 1, .slice ao2 L2 cap2, by omega, by go_num, P1, P0, PO, PZ, PB⟩
          case measure => simp [intOf]; omega
        · go_simp
          refine hK.out _ _ trivial (fun hHeld => ?_)
          clear hK K
          try simp only [Act.put, List.setIfInBounds_toArray, List.set_cons_zero, List.set_cons_succ, List.getElem_toArray, List.getElem_cons_zero, List.getElem_cons_succ]
          refine wpAnyH_ready (rs := [0]) (by kernel_rfl) (by simp) ?_
          refine AllReadyH.cons rfl (fun K hK => ?_) AllReadyH.nil
          go_simp
          refine hK.out _ _ trivial (fun hHeld => ?_)
          clear hK K
          try simp only [Act.put, List.setIfInBounds_toArray, List.set_cons_zero, List.set_cons_succ, List.getElem_toArray, List.getElem_cons_zero, List.getElem_cons_succ]
          refine wpAnyH_ready (rs := [5]) (by kernel_rfl) (by simp) ?_
          refine AllReadyH.cons rfl (fun K hK => ?_) AllReadyH.nil
          go_simp
          refine q.mono ?_
          rintro e w2 ⟨v2, rfl, o2, b2⟩
          refine hK.out _ _ trivial (fun hHeld => ?_)
          clear hK K
          try simp only [Act.put, List.setIfInBounds_toArray, List.set_cons_zero, List.set_cons_succ, List.getElem_toArray, List.getElem_cons_zero, List.getElem_cons_succ]
          have J1 : w2.heap[w.heap.size + 1]? = some (.cells (ee (k : Int) (.slice aok Lk capk)) 34 (0, 0)) := rowKeep (w := wr.drew) HK.out b2
          have J0 : w2.heap[w.heap.size]? = some (.cells (ee 0 (.slice none 0 0)) 34 (0, 0)) := rowKeep (w := wr.drew) HK0.out b2
          have JB : Below w.heap.size w w2 := (Below.drew HBr.out).trans (b2.mono (Below.drew HBr.out).size)
          have z2 : w.heap.size + 2 ≤ w2.heap.size := Nat.le_trans HZr.out b2.size
          have o2 : Own w2 (w.heap.size + 2) w2.heap.size 9 v2 (ss (carry k (edge (l.take k)) (leafH s))) := o2.mono HZr.out (Nat.le_refl _)
          obtain ⟨ao2, L2, cap2, rfl, _, _⟩ := o2.form
          refine wpAnyH_ready (rs := [6]) (by kernel_rfl) (by simp) ?_
          refine AllReadyH.cons rfl (fun K hK => ?_) AllReadyH.nil
          rw [if_pos (by rfl)]
          refine wp_store_row 34 _ _ rfl (w.heap.size + 1) (ee ((k : Int) + 1) (.slice ao2 L2 cap2)) rfl rfl 34 _ J1 (sizeEd _ _) rfl (oneEd _ (Own.one (by assumption))) ?_
          refine hK.out _ _ trivial (fun hHeld => ?_)
          clear hK K
          try simp only [Act.put, List.setIfInBounds_toArray, List.set_cons_zero, List.set_cons_succ, List.getElem_toArray, List.getElem_cons_zero, List.getElem_cons_succ]
          refine wpAnyH_done (by kernel_rfl) ?_ _
          clear hHeld
          have hne : w.heap.size ≠ w.heap.size + 1 := by omega
          have P1 : Hid ((w2.setRow (w.heap.size + 1) (ee ((k : Int) + 1) (.slice ao2 L2 cap2))).heap[w.heap.size + 1]? = some (.cells (ee ((k + 1 : Nat) : Int) (.slice ao2 L2 cap2)) 34 (0, 0))) := setRow_heap _ _ _ _ _ (0, 0) J1
          have P0 : Hid ((w2.setRow (w.heap.size + 1) (ee ((k : Int) + 1) (.slice ao2 L2 cap2))).heap[w.heap.size]? = some (.cells (ee 0 (.slice none 0 0)) 34 (0, 0))) := (setRow_other _ _ _ _ hne).trans J0
          have PO : Hid (Own (w2.setRow (w.heap.size + 1) (ee ((k : Int) + 1) (.slice ao2 L2 cap2))) (w.heap.size + 2) (w2.setRow (w.heap.size + 1) (ee ((k : Int) + 1) (.slice ao2 L2 cap2))).heap.size 9 (.slice ao2 L2 cap2) (ss (edge (l.take (k + 1))))) := by
            show Own _ _ _ _ _ _
            rw [HT.out]
            exact (o2.setRow _ (by omega)).mono (Nat.le_refl _) (by simp)
          have PZ : Hid (w.heap.size + 2 ≤ (w2.setRow (w.heap.size + 1) (ee ((k : Int) + 1) (.slice ao2 L2 cap2))).heap.size) := by show _ ≤ _; simp; exact z2
          have PB : Hid (Below w.heap.size w (w2.setRow (w.heap.size + 1) (ee ((k : Int) + 1) (.slice ao2 L2 cap2)))) := below_setRow JB (by omega) _
          clear J0 J1 JB z2 o2 b2 k0 k1 HK HK0 HO HZr HBr hcell HT hne
          obtain ⟨w3, hw3⟩ : ∃ w3, w2.setRow (w.heap.size + 1) (ee ((k : Int) + 1) (.slice ao2 L2 cap2)) = w3 := ⟨_, rfl⟩
          rw [hw3] at P1 P0 PO PZ PB ⊢
          clear hw3
          go_wp2
          go_roundw
          case rel => exact ⟨k + 1, .slice ao2 L2 cap2, by omega, by go_num, P1, P0, PO, PZ, PB⟩
          case measure => simp [intOf]; omega
      · have HE : Hid (edge (l.take k) = edge l) := by show _ = _; rw [List.take_of_length_le (by omega)]
        have hlt' : ¬ (k : Int) < (l.length : Int) := by omega
        obtain rfl : k = l.length := by omega
        clear hk1 hk2
        go_wp2_with (first | (refine wpList_load_row rfl 34 _ rfl (w.heap.size + 1) rfl 34 (ee (l.length : Int) (.slice aok Lk capk)) (0, 0) _ HK.out Tryd.underlying34 rfl (sizeEd _ _) ?_) | (refine wpList_store_row rfl 34 _ _ rfl w.heap.size (ee (l.length : Int) (.slice aok Lk capk)) rfl rfl 34 _ HK0.out (sizeEd _ _) rfl (oneEd _ rfl) ?_))
        have zz := HZr.out
        refine bodyPost_ret (v := .agg (ee (l.length : Int) (.slice aok Lk capk))) (results_cell_row rfl _ _ w.heap.size 34 _ (0, 0) _ rfl (setRow_heap _ _ _ _ _ (0, 0) HK0.out) Tryd.underlying34 rfl (sizeEd _ _)) rfl ⟨_, by rw [HN.out]; rfl, ?_, below_setRow HBr.out (by omega) _⟩
        rw [HN.out, ← HE.out]
        exact (HO.out.setRow _ (by omega)).mono (by omega) (by simp)
  · have HN : Hid (edgeOf l = (0, [])) := by show _ = _; unfold edgeOf; rw [if_neg h200]
    have h200' : ¬ (l.length : Int) ≤ 200 := by omega
    have h0 : (0 : Int) < (l.length : Int) := by omega
    go_enter Tryd.func47, Tryd.ntmps47
    go_wp2
    rw [← HW.out]
    go_loopw [4] (fun i wr => i = .int .i64 0 ∧ wr = W) (fun i _ => 0)
    case atStart => exact ⟨rfl, rfl⟩
    case round =>
      obtain ⟨rfl, rfl⟩ := hrel
      go_wp2_with (first | (refine wpList_load_row rfl 34 _ rfl (w.heap.size + 1) rfl 34 (ee 0 (.slice none 0 0)) (0, 0) _ HR1.out Tryd.underlying34 rfl (sizeEd _ _) ?_) | (refine wpList_store_row rfl 34 _ _ rfl w.heap.size (ee 0 (.slice none 0 0)) rfl rfl 34 _ HR0.out (sizeEd _ _) rfl (oneEd _ rfl) ?_))
      have zz := HZ.out
      refine bodyPost_ret (v := .agg (ee 0 (.slice none 0 0))) (results_cell_row rfl _ _ w.heap.size 34 _ (0, 0) _ rfl (setRow_heap _ _ _ _ _ (0, 0) HR0.out) Tryd.underlying34 rfl (sizeEd _ _)) rfl ⟨_, by rw [HN.out]; rfl, ?_, below_setRow HB.out (by omega) _⟩
      rw [HN.out]
      exact nil9 _ _ _

end Go.Proofs.YthbonifpdpknnaaDoor.Ed
