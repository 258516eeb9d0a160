/- Chapter 10, the landed code: whether a head is right; how two heads stand to each other; a copy of a head. -/
import Derived.Test.YtanidhhcedinoaaHe3
import Derived.Test.YtanidhhcedinoaaCln
namespace Go.Proofs.Ytanidhhcedinoaa.He
open Go.RowKit Go.Proofs.Ytanidhhcedinoaa.Mem Go.Proofs.Ytanidhhcedinoaa.Laws Go.Proofs.Ytanidhhcedinoaa.Bytes Go.Proofs.Ytanidhhcedinoaa.Sha Go.Proofs.Ytanidhhcedinoaa.Tr
set_option linter.unusedVariables false
set_option linter.unusedSimpArgs false

set_option maxRecDepth 1000000 in
set_option maxHeartbeats 1000000 in
theorem ok_impl (w : World) (h : Hd) (hz : h.r.size ≤ 1000000000000) : Calls Try.prog 12 #[.agg #[.int .i64 h.n, .string h.r]] w fun e w' => e = .returned (.bool (okH h)) ∧ Below w.heap.size w w' := by
  have HB : Hid (Below w.heap.size w (w.alloc (.cells #[.int .i64 h.n, .string h.r] 27))) := (Below.refl _ _).alloc (Nat.le_refl _) _
  by_cases h0 : 0 ≤ h.n
  · by_cases h2 : h.n ≤ 200
    · obtain ⟨t, ht⟩ : ∃ t, ((h.r.size : Int) == 32) = t := ⟨_, rfl⟩
      have HN : Hid (okH h = t) := by
        show _ = _
        rw [← ht]
        unfold okH
        by_cases h32 : h.r.size = 32
        · rw [decide_eq_true ⟨⟨h0, h2⟩, h32⟩, h32]; rfl
        · rw [decide_eq_false (fun c => h32 c.2)]
          exact (beq_eq_false_iff_ne.2 (by omega)).symm
      go_enter Try.func12, Try.ntmps12
      go_wp2
      go_ret
      exact ⟨by rw [HN.out]; rfl, HB.out⟩
    · have HN : Hid (okH h = false) := by show _ = _; unfold okH; rw [decide_eq_false (fun c => h2 c.1.2)]
      go_enter Try.func12, Try.ntmps12
      go_wp2
      go_ret
      exact ⟨by rw [HN.out]; rfl, HB.out⟩
  · have HN : Hid (okH h = false) := by show _ = _; unfold okH; rw [decide_eq_false (fun c => h0 c.1.1)]
    go_enter Try.func12, Try.ntmps12
    go_wp2
    go_ret
    exact ⟨by rw [HN.out]; rfl, HB.out⟩

/-- how two heads stand to each other: 1 the same, 2 of one size, 0 else -/
def pk (a b : Hd) : Int := if eqH a b = true then 1 else if a.n = b.n then 2 else 0

set_option maxRecDepth 1000000 in
set_option maxHeartbeats 1000000 in
theorem pair_impl (w : World) (a b : Hd) : Calls Try.prog 27 #[.agg #[.int .i64 a.n, .string a.r], .agg #[.int .i64 b.n, .string b.r]] w fun e w' => e = .returned (.int .i64 (pk a b)) ∧ Below w.heap.size w w' := by
  have HB : Hid (Below w.heap.size w ((w.alloc (.cells #[.int .i64 a.n, .string a.r] 27)).alloc (.cells #[.int .i64 b.n, .string b.r] 27))) := ((Below.refl _ _).alloc (Nat.le_refl _) _).alloc (by simp) _
  have eq1 : ∀ W : World, _ := fun W => eqlH W a b
  have gr1 : ∀ (W : World) (x y : Operand) (xs ys : Array Value), _ := fun W x y xs ys => grdH W .eql x y xs ys
  by_cases he : eqH a b = true
  · have HN : Hid (pk a b = 1) := by show _ = _; unfold pk; rw [if_pos he]
    simp only [he] at eq1
    clear he
    go_enter Try.func27, Try.ntmps27
    go_wp2
    go_ret
    exact ⟨by rw [HN.out]; rfl, HB.out⟩
  · have hf : eqH a b = false := by simpa using he
    simp only [hf] at eq1
    by_cases hn : a.n = b.n
    · have HN : Hid (pk a b = 2) := by show _ = _; unfold pk; rw [if_neg he, if_pos hn]
      have dn : (a.n == b.n) = true := by rw [beq_iff_eq]; exact hn
      clear he hf hn
      go_enter Try.func27, Try.ntmps27
      go_wp2
      go_ret
      exact ⟨by rw [HN.out]; rfl, HB.out⟩
    · have HN : Hid (pk a b = 0) := by show _ = _; unfold pk; rw [if_neg he, if_neg hn]
      have dn : (a.n == b.n) = false := by rw [beq_eq_false_iff_ne]; exact hn
      clear he hf hn
      go_enter Try.func27, Try.ntmps27
      go_wp2
      go_ret
      exact ⟨by rw [HN.out]; rfl, HB.out⟩

set_option maxRecDepth 1000000 in
set_option maxHeartbeats 2000000 in
theorem own_impl (w : World) (h : Hd) (hz : h.r.size ≤ 1000000000000) : Calls Try.prog 26 #[.agg #[.int .i64 h.n, .string h.r]] w fun e w' => e = .returned (.agg #[.int .i64 h.n, .string h.r]) ∧ Below w.heap.size w w' := by
  obtain ⟨W, hW, R0, R1, bW⟩ : ∃ W, Hid ((w.alloc (.cells #[.int .i64 h.n, .string h.r] 27)).alloc (.cells #[.int .i64 0, .string ⟨#[]⟩] 27) = W) ∧ Hid (W.heap[w.heap.size]? = some (.cells (hc h) 27 (0, 0))) ∧ Hid (W.heap[w.heap.size + 1]? = some (.cells (hc hd0) 27 (0, 0))) ∧ Below w.heap.size w W := ⟨_, rfl, heap_alloc2_old w _ _, heap_alloc2_new w _ _, ((Below.refl _ _).alloc (Nat.le_refl _) _).alloc (by simp) _⟩
  have p0 : W.cell? ⟨w.heap.size, 0, none⟩ = some (.int .i64 h.n) := row_at R0.out 0
  have p1 : W.cell? ⟨w.heap.size, 1, none⟩ = some (.string h.r) := row_at R0.out 1
  go_enter Try.func26, Try.ntmps26
  go_wp2_with fail
  rw [hW.out]
  refine wp_region_held_drew (S := fun w' => w'.cell? ⟨w.heap.size, 0, none⟩ = some (.int .i64 h.n) ∧ w'.cell? ⟨w.heap.size, 1, none⟩ = some (.string h.r)) (by kernel_rfl) ⟨p0, p1⟩ (fun hHeld => ?_)
  (refine wpAnyH_take (i := 0) (v := ?v0x1) rfl (by kernel_rfl) (by kernel_rfl) (by kernel_rfl) (fun _ _ _ h => h) (Or.inl ⟨by rfl, ?hy0x1⟩) (by assumption) ?rest0x1; case hy0x1 => (intro w hSw; (try dsimp only at hSw); go_split_ands; go_simp; (try with_reducible rfl)))
  try simp only [Act.put, List.setIfInBounds_toArray, List.set_cons_zero, List.set_cons_succ, List.getElem_toArray, List.getElem_cons_zero, List.getElem_cons_succ]
  (refine wpAnyH_take (i := 1) (v := ?v1x2) rfl (by kernel_rfl) (by kernel_rfl) (by kernel_rfl) (fun _ _ _ h => h) (Or.inl ⟨by rfl, ?hy1x2⟩) (by assumption) ?rest1x2; case hy1x2 => (intro w hSw; (try dsimp only at hSw); go_split_ands; go_simp; (try with_reducible rfl)))
  try simp only [Act.put, List.setIfInBounds_toArray, List.set_cons_zero, List.set_cons_succ, List.getElem_toArray, List.getElem_cons_zero, List.getElem_cons_succ]
  (refine wpAnyH_take (i := 2) (v := ?v2x3) rfl (by kernel_rfl) (by kernel_rfl) (by kernel_rfl) (fun _ _ _ h => h) (Or.inl ⟨by rfl, ?hy2x3⟩) (by assumption) ?rest2x3; case hy2x3 => (intro w hSw; (try dsimp only at hSw); go_split_ands; go_simp; (try with_reducible rfl)))
  try simp only [Act.put, List.setIfInBounds_toArray, List.set_cons_zero, List.set_cons_succ, List.getElem_toArray, List.getElem_cons_zero, List.getElem_cons_succ]
  (refine wpAnyH_take (i := 3) (v := ?v3x4) rfl (by kernel_rfl) (by kernel_rfl) (by kernel_rfl) (fun _ _ _ h => h) (Or.inl ⟨by rfl, ?hy3x4⟩) (by assumption) ?rest3x4; case hy3x4 => (intro w hSw; (try dsimp only at hSw); go_split_ands; go_simp; (try with_reducible rfl)))
  try simp only [Act.put, List.setIfInBounds_toArray, List.set_cons_zero, List.set_cons_succ, List.getElem_toArray, List.getElem_cons_zero, List.getElem_cons_succ]
  refine wpAnyH_ready (rs := [4]) (by kernel_rfl) (by simp) ?_
  refine AllReadyH.cons rfl (fun K hK => ?_) AllReadyH.nil
  go_simp
  refine (Cln.clone_impl _ h.r hz).mono ?_
  rintro e w4 ⟨rfl, b4⟩
  have B4 : Below w.heap.size w w4 := (Below.drew bW).trans (b4.mono bW.size)
  have R4 : w4.heap[w.heap.size + 1]? = some (.cells (hc hd0) 27 (0, 0)) := rowKeep R1.out ((Below.drew (Below.refl _ _)).trans b4)
  refine hK.out _ _ ⟨keepH hHeld.1 b4, keepH hHeld.2 b4⟩ (fun hHeld => ?_)
  clear hK K
  try simp only [Act.put, List.setIfInBounds_toArray, List.set_cons_zero, List.set_cons_succ, List.getElem_toArray, List.getElem_cons_zero, List.getElem_cons_succ]
  (refine wpAnyH_take (i := 5) (v := ?v5x5) rfl (by kernel_rfl) (by kernel_rfl) (by kernel_rfl) (fun _ _ _ h => h) (Or.inl ⟨by rfl, ?hy5x5⟩) (by assumption) ?rest5x5; case hy5x5 => (intro w hSw; (try dsimp only at hSw); go_split_ands; go_simp; (try with_reducible rfl)))
  try simp only [Act.put, List.setIfInBounds_toArray, List.set_cons_zero, List.set_cons_succ, List.getElem_toArray, List.getElem_cons_zero, List.getElem_cons_succ]
  refine wpAnyH_ready (rs := [6]) (by kernel_rfl) (by simp) ?_
  refine AllReadyH.cons rfl (fun K hK => ?_) AllReadyH.nil
  rw [if_pos (by rfl)]
  refine wp_store_row 27 _ _ rfl (w.heap.size + 1) (hc h) rfl rfl 27 _ R4 (sizeH h) rfl (oneH h) ?_
  refine hK.out _ _ ⟨cell_row (by show w.heap.size ≠ _; omega) hHeld.1, cell_row (by show w.heap.size ≠ _; omega) hHeld.2⟩ (fun hHeld => ?_)
  clear hK K
  try simp only [Act.put, List.setIfInBounds_toArray, List.set_cons_zero, List.set_cons_succ, List.getElem_toArray, List.getElem_cons_zero, List.getElem_cons_succ]
  refine wpAnyH_done (by kernel_rfl) ?_ _
  clear hHeld
  go_wp2
  exact bodyPost_ret (v := .agg (hc h)) (results_cell_row rfl _ _ (w.heap.size + 1) 27 _ (0, 0) _ rfl (setRow_heap _ _ _ _ _ (0, 0) R4) Try.underlying27 rfl (sizeH h)) rfl ⟨rfl, below_setRow B4 (by omega) _⟩

end Go.Proofs.Ytanidhhcedinoaa.He
