/- Chapter 9, the landed code: the nodes of a tile paired. -/
import Derived.Test.YthcmkpdmdkpebaaDoorTi7
import Derived.Test.YthcmkpdmdkpebaaDoorRec
import Derived.Deep.RegionHeld3
namespace Go.Proofs.YthcmkpdmdkpebaaDoor.Ti
open Go.RowKit Go.Proofs.YthcmkpdmdkpebaaDoor.Mem Go.Proofs.YthcmkpdmdkpebaaDoor.Laws Go.Proofs.YthcmkpdmdkpebaaDoor.Bytes Go.Proofs.YthcmkpdmdkpebaaDoor.Sha Go.Proofs.YthcmkpdmdkpebaaDoor.Tr
set_option linter.unusedVariables false
set_option linter.unusedSimpArgs false

set_option maxRecDepth 1000000 in
set_option maxHeartbeats 2000000 in
theorem paired_impl (w : World) (x0 x1 x2 x3 : No) (hG : Glob w) (h0 : x0.s.size ≤ 100000000000) (h1 : x1.s.size ≤ 100000000000) (h2 : x2.s.size ≤ 100000000000) (h3 : x3.s.size ≤ 100000000000) :
    Calls Tryd.prog 25 #[.agg #[.string x0.s, .bool x0.p, .string x1.s, .bool x1.p, .string x2.s, .bool x2.p, .string x3.s, .bool x3.p]] w fun e w' => e = .returned (.agg (t4 (jn x0 x1) (jn x2 x3) no0 no0)) ∧ Below w.heap.size w w' := by
  obtain ⟨W, hW⟩ : ∃ W, W = (w.alloc (.cells (t4 x0 x1 x2 x3) 41)).alloc (.cells (t4 no0 no0 no0 no0) 41) := ⟨_, rfl⟩
  have HB : Hid (Below w.heap.size w W) := by
    show Below _ _ _
    rw [hW]
    exact ((Below.refl _ _).alloc (Nat.le_refl _) _).alloc (by simp) _
  have HR0 : W.heap[w.heap.size]? = some (.cells (t4 x0 x1 x2 x3) 41 (0, 0)) := by rw [hW]; exact heap_alloc2_old w _ _
  have HR1 : W.heap[w.heap.size + 1]? = some (.cells (t4 no0 no0 no0 no0) 41 (0, 0)) := by rw [hW]; exact heap_alloc2_new w _ _
  have HG : Hid (Glob W) := hG.later HB.out
  have c0 : W.cell? ⟨w.heap.size, 0, none⟩ = some (.string x0.s) := by rw [cell_of_row W _ _ _ _ _ HR0]; rfl
  have c1 : W.cell? ⟨w.heap.size, 1, none⟩ = some (.bool x0.p) := by rw [cell_of_row W _ _ _ _ _ HR0]; rfl
  have c2 : W.cell? ⟨w.heap.size, 2, none⟩ = some (.string x1.s) := by rw [cell_of_row W _ _ _ _ _ HR0]; rfl
  have c3 : W.cell? ⟨w.heap.size, 3, none⟩ = some (.bool x1.p) := by rw [cell_of_row W _ _ _ _ _ HR0]; rfl
  have c4 : W.cell? ⟨w.heap.size, 4, none⟩ = some (.string x2.s) := by rw [cell_of_row W _ _ _ _ _ HR0]; rfl
  have c5 : W.cell? ⟨w.heap.size, 5, none⟩ = some (.bool x2.p) := by rw [cell_of_row W _ _ _ _ _ HR0]; rfl
  have c6 : W.cell? ⟨w.heap.size, 6, none⟩ = some (.string x3.s) := by rw [cell_of_row W _ _ _ _ _ HR0]; rfl
  have c7 : W.cell? ⟨w.heap.size, 7, none⟩ = some (.bool x3.p) := by rw [cell_of_row W _ _ _ _ _ HR0]; rfl
  have q1 : ∀ W', Below w.heap.size w W' → _ := fun W' hB' => joined_impl W' x0 x1 (hG.later hB') h0 h1
  have q2 : ∀ W', Below w.heap.size w W' → _ := fun W' hB' => joined_impl W' x2 x3 (hG.later hB') h2 h3
  obtain ⟨y0, hy0⟩ : ∃ y, jn x0 x1 = y := ⟨_, rfl⟩
  obtain ⟨y1, hy1⟩ : ∃ y, jn x2 x3 = y := ⟨_, rfl⟩
  simp only [hy0, hy1] at q1 q2 ⊢
  have HH1 : Hid (W.heap[w.heap.size + 1]? = some (.cells (t4 no0 no0 no0 no0) 41 (0, 0))) := HR1
  have HW : Hid (W = _) := hW
  clear hW HR0 HR1 hy0 hy1
  go_enter Tryd.func25, Tryd.ntmps25
  go_wp2
  have HW2 := HW.out
  unfold t4 at HW2
  try simp only [no0] at HW2
  rw [← HW2]
  clear HW HW2
  refine wp_region_held_drew (S := fun w' => w'.cell? ⟨w.heap.size, 0, none⟩ = some (.string x0.s) ∧ w'.cell? ⟨w.heap.size, 1, none⟩ = some (.bool x0.p) ∧ w'.cell? ⟨w.heap.size, 2, none⟩ = some (.string x1.s) ∧ w'.cell? ⟨w.heap.size, 3, none⟩ = some (.bool x1.p) ∧ w'.cell? ⟨w.heap.size, 4, none⟩ = some (.string x2.s) ∧ w'.cell? ⟨w.heap.size, 5, none⟩ = some (.bool x2.p) ∧ w'.cell? ⟨w.heap.size, 6, none⟩ = some (.string x3.s) ∧ w'.cell? ⟨w.heap.size, 7, none⟩ = some (.bool x3.p)) (by kernel_rfl) ⟨c0, c1, c2, c3, c4, c5, c6, c7⟩ (fun hHeld => ?_)
  (refine wpAnyH_take (i := 0) (v := ?v0x1) rfl (by kernel_rfl) (by kernel_rfl) (by kernel_rfl) (fun _ _ _ h => h) (Or.inl ⟨by rfl, ?hy0x1⟩) (by assumption) ?rest0x1; case hy0x1 => (intro w hSw; (try dsimp only at hSw); go_split_ands; go_simp; (try with_reducible rfl)))
  try simp only [Act.put, List.setIfInBounds_toArray, List.set_cons_zero, List.set_cons_succ, List.getElem_toArray, List.getElem_cons_zero, List.getElem_cons_succ]
  (refine wpAnyH_take (i := 1) (v := ?v1x2) rfl (by kernel_rfl) (by kernel_rfl) (by kernel_rfl) (fun _ _ _ h => h) (Or.inl ⟨by rfl, ?hy1x2⟩) (by assumption) ?rest1x2; case hy1x2 => (intro w hSw; (try dsimp only at hSw); go_split_ands; go_simp; (try with_reducible rfl)))
  try simp only [Act.put, List.setIfInBounds_toArray, List.set_cons_zero, List.set_cons_succ, List.getElem_toArray, List.getElem_cons_zero, List.getElem_cons_succ]
  (refine wpAnyH_take (i := 2) (v := ?v2x3) rfl (by kernel_rfl) (by kernel_rfl) (by kernel_rfl) (fun _ _ _ h => h) (Or.inl ⟨by rfl, ?hy2x3⟩) (by assumption) ?rest2x3; case hy2x3 => (intro w hSw; (try dsimp only at hSw); go_split_ands; go_simp; (try with_reducible rfl)))
  try simp only [Act.put, List.setIfInBounds_toArray, List.set_cons_zero, List.set_cons_succ, List.getElem_toArray, List.getElem_cons_zero, List.getElem_cons_succ]
  (refine wpAnyH_take (i := 3) (v := ?v3x4) rfl (by kernel_rfl) (by kernel_rfl) (by kernel_rfl) (fun _ _ _ h => h) (Or.inl ⟨by rfl, ?hy3x4⟩) (by assumption) ?rest3x4; case hy3x4 => (intro w hSw; (try dsimp only at hSw); go_split_ands; go_simp; (try with_reducible rfl)))
  try simp only [Act.put, List.setIfInBounds_toArray, List.set_cons_zero, List.set_cons_succ, List.getElem_toArray, List.getElem_cons_zero, List.getElem_cons_succ]
  (refine wpAnyH_take (i := 5) (v := ?v5x5) rfl (by kernel_rfl) (by kernel_rfl) (by kernel_rfl) (fun _ _ _ h => h) (Or.inl ⟨by rfl, ?hy5x5⟩) (by assumption) ?rest5x5; case hy5x5 => (intro w hSw; (try dsimp only at hSw); go_split_ands; go_simp; (try with_reducible rfl)))
  try simp only [Act.put, List.setIfInBounds_toArray, List.set_cons_zero, List.set_cons_succ, List.getElem_toArray, List.getElem_cons_zero, List.getElem_cons_succ]
  (refine wpAnyH_take (i := 6) (v := ?v6x6) rfl (by kernel_rfl) (by kernel_rfl) (by kernel_rfl) (fun _ _ _ h => h) (Or.inl ⟨by rfl, ?hy6x6⟩) (by assumption) ?rest6x6; case hy6x6 => (intro w hSw; (try dsimp only at hSw); go_split_ands; go_simp; (try with_reducible rfl)))
  try simp only [Act.put, List.setIfInBounds_toArray, List.set_cons_zero, List.set_cons_succ, List.getElem_toArray, List.getElem_cons_zero, List.getElem_cons_succ]
  (refine wpAnyH_take (i := 7) (v := ?v7x7) rfl (by kernel_rfl) (by kernel_rfl) (by kernel_rfl) (fun _ _ _ h => h) (Or.inl ⟨by rfl, ?hy7x7⟩) (by assumption) ?rest7x7; case hy7x7 => (intro w hSw; (try dsimp only at hSw); go_split_ands; go_simp; (try with_reducible rfl)))
  try simp only [Act.put, List.setIfInBounds_toArray, List.set_cons_zero, List.set_cons_succ, List.getElem_toArray, List.getElem_cons_zero, List.getElem_cons_succ]
  (refine wpAnyH_take (i := 8) (v := ?v8x8) rfl (by kernel_rfl) (by kernel_rfl) (by kernel_rfl) (fun _ _ _ h => h) (Or.inl ⟨by rfl, ?hy8x8⟩) (by assumption) ?rest8x8; case hy8x8 => (intro w hSw; (try dsimp only at hSw); go_split_ands; go_simp; (try with_reducible rfl)))
  try simp only [Act.put, List.setIfInBounds_toArray, List.set_cons_zero, List.set_cons_succ, List.getElem_toArray, List.getElem_cons_zero, List.getElem_cons_succ]
  refine wpAnyH_ready (rs := [4]) (by kernel_rfl) (by simp) ?_
  refine AllReadyH.cons rfl (fun K hK => ?_) AllReadyH.nil
  go_simp
  refine (q1 _ (Below.drew HB.out)).mono ?_
  rintro e w1 ⟨rfl, b1⟩
  refine hK.out _ _ ?_ (fun hHeld => ?_)
  · obtain ⟨s0, s1, s2, s3, s4, s5, s6, s7⟩ := hHeld; exact ⟨keepR s0 b1, keepR s1 b1, keepR s2 b1, keepR s3 b1, keepR s4 b1, keepR s5 b1, keepR s6 b1, keepR s7 b1⟩
  clear hK K
  try simp only [Act.put, List.setIfInBounds_toArray, List.set_cons_zero, List.set_cons_succ, List.getElem_toArray, List.getElem_cons_zero, List.getElem_cons_succ]
  have B1 : Below w.heap.size w w1 := (Below.drew HB.out).trans (b1.mono HB.out.size)
  refine wpAnyH_ready (rs := [9]) (by kernel_rfl) (by simp) ?_
  refine AllReadyH.cons rfl (fun K hK => ?_) AllReadyH.nil
  go_simp
  refine (q2 _ B1).mono ?_
  rintro e w2 ⟨rfl, b2⟩
  refine hK.out _ _ ?_ (fun hHeld => ?_)
  · obtain ⟨s0, s1, s2, s3, s4, s5, s6, s7⟩ := hHeld; exact ⟨keepR s0 b2, keepR s1 b2, keepR s2 b2, keepR s3 b2, keepR s4 b2, keepR s5 b2, keepR s6 b2, keepR s7 b2⟩
  clear hK K
  try simp only [Act.put, List.setIfInBounds_toArray, List.set_cons_zero, List.set_cons_succ, List.getElem_toArray, List.getElem_cons_zero, List.getElem_cons_succ]
  have B2 : Below w.heap.size w w2 := B1.trans (b2.mono B1.size)
  have J1 : w2.heap[w.heap.size + 1]? = some (.cells (t4 no0 no0 no0 no0) 41 (0, 0)) := rowKeep (rowKeep (w := W.drew) HH1.out b1) b2
  have hne : w.heap.size ≠ w.heap.size + 1 := by omega
  (refine wpAnyH_take (i := 10) (v := ?v10x9) rfl (by kernel_rfl) (by kernel_rfl) (by kernel_rfl) (fun _ _ _ h => h) (Or.inl ⟨by rfl, ?hy10x9⟩) (by assumption) ?rest10x9; case hy10x9 => (intro w hSw; (try dsimp only at hSw); go_split_ands; go_simp; (try with_reducible rfl)))
  try simp only [Act.put, List.setIfInBounds_toArray, List.set_cons_zero, List.set_cons_succ, List.getElem_toArray, List.getElem_cons_zero, List.getElem_cons_succ]
  refine wpAnyH_ready (rs := [11]) (by kernel_rfl) (by simp) ?_
  refine AllReadyH.cons rfl (fun K hK => ?_) AllReadyH.nil
  rw [if_pos (by rfl)]
  refine wp_store_row 41 _ _ rfl (w.heap.size + 1) (t4 y0 y1 no0 no0) rfl rfl 41 _ J1 (size8t _ _ _ _) rfl (one8 _ _ _ _) ?_
  refine hK.out _ _ ?_ (fun hHeld => ?_)
  · obtain ⟨s0, s1, s2, s3, s4, s5, s6, s7⟩ := hHeld; exact ⟨cell_row hne s0, cell_row hne s1, cell_row hne s2, cell_row hne s3, cell_row hne s4, cell_row hne s5, cell_row hne s6, cell_row hne s7⟩
  clear hK K
  try simp only [Act.put, List.setIfInBounds_toArray, List.set_cons_zero, List.set_cons_succ, List.getElem_toArray, List.getElem_cons_zero, List.getElem_cons_succ]
  refine wpAnyH_done (by kernel_rfl) ?_ _
  clear hHeld
  go_wp2
  exact bodyPost_ret (v := .agg (t4 y0 y1 no0 no0)) (results_cell_row rfl _ _ (w.heap.size + 1) 41 _ (0, 0) _ rfl (setRow_heap _ _ _ _ _ (0, 0) J1) Tryd.underlying41 rfl (size8t _ _ _ _)) rfl ⟨rfl, below_setRow B2 (by omega) _⟩

end Go.Proofs.YthcmkpdmdkpebaaDoor.Ti
