/- Chapter 11, the specification's draws: logs that may be wrong. -/
import Derived.Test.YtccnhhdcdamgmaaDoorLg1
import Derived.Test.YtccnhhdcdamgmaaDoorHe7
import Derived.Test.YtccnhhdcdamgmaaDoorNth
namespace Go.Proofs.YtccnhhdcdamgmaaDoor.Lg
open Go.RowKit Go.Proofs.YtccnhhdcdamgmaaDoor.Mem Go.Proofs.YtccnhhdcdamgmaaDoor.Laws Go.Proofs.YtccnhhdcdamgmaaDoor.Bytes Go.Proofs.YtccnhhdcdamgmaaDoor.Sha Go.Proofs.YtccnhhdcdamgmaaDoor.Tr Go.Proofs.YtccnhhdcdamgmaaDoor.Draw Go.Proofs.YtccnhhdcdamgmaaDoor.He
set_option linter.unusedVariables false
set_option linter.unusedSimpArgs false

theorem keep1 {w w' : World} {lo hi : Nat} {e : TypeId} {v : Value} {cs : List Value} (h : Own w lo hi e v cs) (hk : ∀ g, v.ownBlock = some g → w'.heap[g]? = w.heap[g]?) : Own w' lo hi e v cs := by
  obtain ⟨⟨h1, h2⟩, h3⟩ := h
  refine ⟨⟨h1, ?_⟩, h3⟩
  rcases h2 with h2 | ⟨g, cap, cur, rfl, hb, hg, r⟩
  · exact .inl h2
  · exact .inr ⟨g, cap, cur, rfl, hb, by rw [hk g rfl]; exact hg, r⟩
/-- a row of another type is not what is owned -/
theorem ne_row {w : World} {lo hi g : Nat} {e t : TypeId} {v : Value} {cs : List Value} {cs' : Array Value} {fr : Nat × Nat} (h : Own w lo hi e v cs) (hr : w.heap[g]? = some (.cells cs' t fr)) (ht : t ≠ e) : v.ownBlock ≠ some g := by
  intro hv
  obtain ⟨⟨h1, h2⟩, h3⟩ := h
  rcases h2 with ⟨rfl, _⟩ | ⟨g', cap, cur, rfl, hb, hg, r⟩
  · simp [Value.ownBlock] at hv
  · simp [Value.ownBlock] at hv
    subst hv
    rw [hg] at hr
    simp at hr
    exact ht hr.2.1.symm

set_option maxRecDepth 1000000 in
set_option maxHeartbeats 1000000 in
theorem log_spec (w : World) (v : Value) (l : List ByteArray) (hs : Sl w v (ss l)) (hl : l.length ≤ 1000000000000) (hz : ∀ s ∈ l, s.size ≤ 10000000000) :
    Calls Tryd.prog 48 #[v] w fun e w' => e = .returned (.agg #[v, .int .i64 (headOf l).n, .string (headOf l).r]) ∧ Below w.heap.size w w' := by
  obtain ⟨W, hW, HR, HB⟩ : ∃ W, Hid (w.alloc (.cells #[.slice none 0 0, .int .i64 0, .string ⟨#[]⟩] 28) = W) ∧ Hid (W.heap[w.heap.size]? = some (.cells (lc (.slice none 0 0) hd0) 28 (0, 0))) ∧ Hid (Below w.heap.size w W) := ⟨_, rfl, heap_alloc_new w _, (Below.refl _ _).alloc (Nat.le_refl _) _⟩
  have q := headOf_spec W v l (hs.later HB.out) hl hz
  obtain ⟨ao, cap, rfl, hcap⟩ := hs.form
  rw [ss_len] at *
  obtain ⟨M, hM⟩ : ∃ M, headOf l = M := ⟨_, rfl⟩
  rw [hM] at q ⊢
  rw [← hW.out] at q
  clear hM hs hz
  go_enter Tryd.func48, Tryd.ntmps48
  go_wp2_with fail
  refine q.mono ?_
  rw [hW.out]
  rintro e w1 ⟨rfl, b1⟩
  have R1 := rowKeep HR.out b1
  have B1 : Below w.heap.size w w1 := HB.out.trans (b1.mono HB.out.size)
  clear q b1 HR HB hW
  go_wp2_with (refine wpList_store_row rfl 28 _ _ rfl w.heap.size (lc (.slice ao l.length cap) M) rfl rfl 28 _ R1 (sizeL _ _) rfl (oneL _ rfl) ?_)
  exact bodyPost_ret (v := .agg (lc (.slice ao l.length cap) M)) (results_cell_row rfl _ _ w.heap.size 28 _ (0, 0) _ rfl (setRow_heap _ _ _ _ _ (0, 0) R1) Tryd.underlying28 rfl (sizeL _ _)) rfl ⟨rfl, below_setRow B1 (Nat.le_refl _) _⟩

theorem drawn_row {W0 w w' : World} {g k : Nat} {vb : Value} {xs : List Int} {o : Obj} (h : w.heap[k]? = some o) (d : Drawn W0 w g vb xs w') (hk : k ≠ g) : w'.heap[k]? = some o :=
  (d.apart.block k (Array.getElem?_eq_some_iff.1 h).1 (by omega)).trans h

set_option maxRecDepth 1000000 in
set_option maxHeartbeats 4000000 in
theorem any11 (W0 w : World) (g : Nat) (vb : Value) (xs : List Int) (hs : Sl W0 vb (bs xs)) (hby : Byt xs) (hx : xs.length ≤ 140737488355328) (hB : Below W0.heap.size W0 w) (hg : W0.heap.size ≤ g) (hcu : Cur w g vb xs.length) :
    Calls Tryd.prog 51 #[.pointer (some ⟨g, 0, none⟩)] w fun e w' => ∃ (v' : Value) (l : List ByteArray) (h : Hd), e = .returned (.agg #[v', .int .i64 h.n, .string h.r]) ∧ l.length ≤ 9 ∧ (∀ s ∈ l, s.size ≤ 3) ∧ h.r.size ≤ 32 ∧ Own w' w.heap.size w'.heap.size 9 v' (ss l) ∧ Drawn W0 w g vb xs w' := by
  obtain ⟨i0, hi, hz0, hz1, hz2⟩ := info_parts info9t
  have hgw := hcu.lt
  obtain ⟨W, hW, R0, d0, bW, zW⟩ : ∃ W, Hid (w.alloc (.cells #[.slice none 0 0, .int .i64 0, .string ⟨#[]⟩] 28) = W) ∧ Hid (W.heap[w.heap.size]? = some (.cells (lc (.slice none 0 0) hd0) 28 (0, 0))) ∧ Hid (Drawn W0 w g vb xs W) ∧ Below w.heap.size w W ∧ Hid (W.heap.size = w.heap.size + 1) := ⟨_, rfl, heap_alloc_new w _, (Drawn.refl hB hcu).on hg hgw ((Below.refl _ _).alloc (Nat.le_refl _) _), (Below.refl _ _).alloc (Nat.le_refl _) _, by show _ = _; simp⟩
  have q2 := list_any W0 W g vb xs hs hby hx d0.out.below hg d0.out.cur
  rw [← hW.out] at q2
  go_enter Tryd.func51, Tryd.ntmps51
  go_wp2_with fail
  refine q2.mono ?_
  rw [hW.out]
  rintro e w2 ⟨v2, l, rfl, hll, hls, o2, d2⟩
  have z2 : W.heap.size ≤ w2.heap.size := d2.apart.size
  have R2 : Hid (w2.heap[w.heap.size]? = some (.cells (lc (.slice none 0 0) hd0) 28 (0, 0))) := drawn_row R0.out d2 (by omega)
  have D2 : Hid (Drawn W0 w g vb xs w2) := d0.out.and d2
  have q3 := log_spec w2 v2 l o2.sl (by omega) (fun s hs => by have := hls s hs; omega)
  have hMz := headOf_size l
  have hMn : 0 ≤ (headOf l).n ∧ (headOf l).n ≤ 8 := by unfold headOf; rw [if_pos (by omega)]; exact ⟨by show (0 : Int) ≤ (l.length : Int); omega, by show (l.length : Int) ≤ 8; omega⟩
  obtain ⟨M, hM⟩ : ∃ M, headOf l = M := ⟨_, rfl⟩
  rw [hM] at q3 hMz hMn
  obtain ⟨ao2, L2, cap2, rfl, hL1, hL2⟩ := Mem.Own.form o2
  have O2 : Hid (Own w2 W.heap.size w2.heap.size 9 (.slice ao2 L2 cap2) (ss l)) := o2
  have HLS : Hid (∀ s ∈ l, s.size ≤ 3) := hls
  clear q2 R0 d0 d2 hM o2 hls bW hW
  go_wp2_with fail
  refine q3.mono ?_
  rintro e w3 ⟨rfl, b3⟩
  have z3 : w2.heap.size ≤ w3.heap.size := b3.size
  have hzW1 : W.heap.size ≤ w.heap.size + 1 := by rw [zW.out]; exact Nat.le_refl _
  have hzW2 : w.heap.size + 1 ≤ W.heap.size := by rw [zW.out]; exact Nat.le_refl _
  have hgw3 : g < w3.heap.size := by omega
  have R3 := rowKeep R2.out b3
  have O3 := Own.later O2.out b3 (Nat.le_refl _)
  have D3 : Drawn W0 w g vb xs w3 := D2.out.on hg hgw (b3.mono (by omega))
  obtain ⟨X, hX, XR, XL, XO, XD, zX⟩ : ∃ X, Hid (w3.alloc (.cells #[.slice ao2 L2 cap2, .int .i64 M.n, .string M.r] 28) = X) ∧ Hid (X.heap[w.heap.size]? = some (.cells (lc (.slice none 0 0) hd0) 28 (0, 0))) ∧ Hid (X.heap[w3.heap.size]? = some (.cells (lc (.slice ao2 L2 cap2) M) 28 (0, 0))) ∧ Hid (Own X W.heap.size w2.heap.size 9 (.slice ao2 L2 cap2) (ss l)) ∧ Hid (Drawn W0 w g vb xs X) ∧ w3.heap.size + 1 ≤ X.heap.size :=
    ⟨_, rfl, (heap_alloc_old _ _ (by omega)).trans R3, heap_alloc_new _ _, Own.later (B := w3.heap.size) O3 ((Below.refl _ _).alloc (Nat.le_refl _) _) z3, D3.on hg hgw ((Below.refl _ _).alloc (by omega) _), by simp⟩
  have q4 := below_any W0 X g vb xs 10 (by omega) (by omega) hs hby hx XD.out.below hg XD.out.cur
  rw [← hX.out] at q4
  clear q3 b3 R2 R3 O2 O3 D2 D3
  go_wp2_with fail
  refine q4.mono ?_
  rw [hX.out]
  rintro e w5 ⟨x, rfl, hx0, hx1, d5⟩
  have z5 : X.heap.size ≤ w5.heap.size := d5.apart.size
  have R5 : Hid (w5.heap[w.heap.size]? = some (.cells (lc (.slice none 0 0) hd0) 28 (0, 0))) := drawn_row XR.out d5 (by omega)
  have L5 : Hid (w5.heap[w3.heap.size]? = some (.cells (lc (.slice ao2 L2 cap2) M) 28 (0, 0))) := drawn_row XL.out d5 (by omega)
  have O5 : Hid (Own w5 W.heap.size w2.heap.size 9 (.slice ao2 L2 cap2) (ss l)) := Own.drawn XO.out d5 (.inl (by omega)) (by omega)
  have D5 : Hid (Drawn W0 w g vb xs w5) := XD.out.and d5
  have k0 : w5.cell? ⟨w3.heap.size, 0, none⟩ = some (.slice ao2 L2 cap2) := row_at L5.out 0
  have k1 : w5.cell? ⟨w3.heap.size, 1, none⟩ = some (.int .i64 M.n) := row_at L5.out 1
  have f0 : w5.frozen? ⟨w3.heap.size, 0, none⟩ = false := row_free L5.out 0
  have f1 : w5.frozen? ⟨w3.heap.size, 1, none⟩ = false := row_free L5.out 1
  clear q4 XR XL XO XD d5 hX
  by_cases c0 : x = 0
  · subst c0
    have o1 : ∀ o, Own (w5.alloc o) W.heap.size (w5.alloc o).heap.size 9 (.slice ao2 L2 cap2) (ss l) := fun o => (Own.later (B := w5.heap.size) O5.out ((Below.refl _ _).alloc (Nat.le_refl _) o) (by omega)).mono (Nat.le_refl _) (by simp; omega)
    have c2 : (ss l).length + 1 ≤ maxLen := by rw [ss_len]; unfold maxLen; omega
    have c3 : ((ss l).length + 1) * 16 ≤ 140737488355328 := by rw [ss_len]; omega
    have c4 : ∀ o, W.heap.size ≤ (w5.alloc o).heap.size := fun o => by simp; omega
    go_wp2_with (at_builtin; go_must (refine wpl_app _ rfl (.tmp 12) (.tmp 13) 24 rfl 9 i0 (.string ⟨#[]⟩) 16 Tryd.underlying24 hi hz0 hz1 hz2 rfl W.heap.size _ (ss l) rfl (o1 _) _ rfl [.string ⟨#[120]⟩] (Sl.one _ _ _) (oneT _) c2 c3 (c4 _) ?_))
    intro v6 w6 ho6 hb6 hg6
    have L5' : (w5.alloc (.cells #[.string ⟨#[120]⟩] 9)).heap[w3.heap.size]? = some (.cells (lc (.slice ao2 L2 cap2) M) 28 (0, 0)) := (heap_alloc_old _ _ (by omega)).trans L5.out
    have L6 : w6.heap[w3.heap.size]? = some (.cells (lc (.slice ao2 L2 cap2) M) 28 (0, 0)) := (hg6.block w3.heap.size (by simp; omega) (fun h => ne_row O5.out L5.out (by decide) h.symm)).trans L5'
    have R6 : w6.heap[w.heap.size]? = some (.cells (lc (.slice none 0 0) hd0) 28 (0, 0)) := (hb6.block w.heap.size (by omega)).trans ((heap_alloc_old _ _ (by omega)).trans R5.out)
    have z6 : w5.heap.size + 1 ≤ w6.heap.size := by have := hb6.size; simp at this; omega
    have D6 : Drawn W0 w g vb xs w6 := (D5.out.on hg hgw ((Below.refl _ _).alloc (by omega) (.cells #[.string ⟨#[120]⟩] 9))).on hg hgw (hb6.mono (by omega))
    obtain ⟨ao6, L6n, cap6, rfl, hq1, hq2⟩ := Mem.Own.form ho6
    have j0 : w6.cell? ⟨w3.heap.size, 0, none⟩ = some (.slice ao2 L2 cap2) := row_at L6 0
    have e0 : w6.frozen? ⟨w3.heap.size, 0, none⟩ = false := row_free L6 0
    have hne := ne_row ho6 L6 (by decide)
    obtain ⟨Y, HY, YL, YR, YO, YD, YZ⟩ : ∃ Y, Hid (w6.setCell ⟨w3.heap.size, 0, none⟩ (.slice ao6 L6n cap6) = Y) ∧ Hid (Y.heap[w3.heap.size]? = some (.cells (lc (.slice ao6 L6n cap6) M) 28 (0, 0))) ∧ Hid (Y.heap[w.heap.size]? = some (.cells (lc (.slice none 0 0) hd0) 28 (0, 0))) ∧ Hid (Own Y W.heap.size w6.heap.size 9 (.slice ao6 L6n cap6) (ss (l ++ [⟨#[120]⟩]))) ∧ Hid (Drawn W0 w g vb xs Y) ∧ Y.heap.size = w6.heap.size := by
      refine ⟨_, rfl, row_set L6 0 _, (Below.heap_setCell _ _ _ _ (by show w.heap.size ≠ w3.heap.size; omega)).trans R6, ?_, D6.on hg hgw ((Below.refl _ _).setCell (p := ⟨w3.heap.size, 0, none⟩) (by show w.heap.size ≤ w3.heap.size; omega) _), by simp [World.setCell]⟩
      show Own _ _ _ _ _ _
      rw [ss_app]
      exact keep1 ho6 (fun k hk => Below.heap_setCell _ _ _ _ (by show k ≠ w3.heap.size; intro h; subst h; exact hne hk))
    have HT : Hid (∀ s ∈ l ++ [(⟨#[120]⟩ : ByteArray)], s.size ≤ 3) := by
      intro s hs
      rcases List.mem_append.1 hs with h | h
      · exact HLS.out s h
      · simp at h
        subst h
        decide
    clear o1 c2 c3 c4 L5' L6 R6 D6 ho6 hb6 hg6 hne k0 k1 f0 f1 L5 R5 O5 D5 HLS hq1 hq2
    go_wp2_with (first | (rw [HY.out]; refine wpList_load_row rfl 28 _ rfl w3.heap.size rfl 28 (lc (.slice ao6 L6n cap6) M) (0, 0) _ YL.out Tryd.underlying28 rfl (sizeL _ _) ?_) | (refine wpList_store_row rfl 28 _ _ rfl w.heap.size (lc (.slice ao6 L6n cap6) M) rfl rfl 28 _ YR.out (sizeL _ _) rfl (oneL _ rfl) ?_))
    refine bodyPost_ret (v := .agg (lc (.slice ao6 L6n cap6) M)) (results_cell_row rfl _ _ w.heap.size 28 _ (0, 0) _ rfl (setRow_heap _ _ _ _ _ (0, 0) YR.out) Tryd.underlying28 rfl (sizeL _ _)) rfl ⟨_, (l ++ [⟨#[120]⟩]), M, rfl, by simp; omega, HT.out, hMz, ?_, ?_⟩
    · exact (Own.setRow YO.out _ (by omega)).mono (by omega) (by rw [size_setRow]; omega)
    · exact YD.out.on hg hgw (below_setRow (Below.refl _ _) (Nat.le_refl _) _)
  · by_cases c1 : x = 1
    · subst c1
      have hw1 : IntKind.i64.wrap (M.n + 1) = M.n + 1 := by rw [IntKind.wrap_i64]; omega
      obtain ⟨Y, HY, YL, YR, YO, YD, YZ⟩ : ∃ Y, Hid (w5.setCell ⟨w3.heap.size, 1, none⟩ (.int .i64 (M.n + 1)) = Y) ∧ Hid (Y.heap[w3.heap.size]? = some (.cells (lc (.slice ao2 L2 cap2) ⟨M.n + 1, M.r⟩) 28 (0, 0))) ∧ Hid (Y.heap[w.heap.size]? = some (.cells (lc (.slice none 0 0) hd0) 28 (0, 0))) ∧ Hid (Own Y W.heap.size w2.heap.size 9 (.slice ao2 L2 cap2) (ss l)) ∧ Hid (Drawn W0 w g vb xs Y) ∧ Y.heap.size = w5.heap.size :=
        ⟨_, rfl, row_set L5.out 1 _, (Below.heap_setCell _ _ _ _ (by show w.heap.size ≠ w3.heap.size; omega)).trans R5.out, Own.setCell O5.out _ (by omega), D5.out.on hg hgw ((Below.refl _ _).setCell (p := ⟨w3.heap.size, 1, none⟩) (by show w.heap.size ≤ w3.heap.size; omega) _), by simp [World.setCell]⟩
      clear L5 R5 O5 D5
      go_wp2_with (first | (rw [HY.out]; refine wpList_load_row rfl 28 _ rfl w3.heap.size rfl 28 (lc (.slice ao2 L2 cap2) ⟨M.n + 1, M.r⟩) (0, 0) _ YL.out Tryd.underlying28 rfl (sizeL _ _) ?_) | (refine wpList_store_row rfl 28 _ _ rfl w.heap.size (lc (.slice ao2 L2 cap2) ⟨M.n + 1, M.r⟩) rfl rfl 28 _ YR.out (sizeL _ _) rfl (oneL _ rfl) ?_))
      refine bodyPost_ret (v := .agg (lc (.slice ao2 L2 cap2) ⟨M.n + 1, M.r⟩)) (results_cell_row rfl _ _ w.heap.size 28 _ (0, 0) _ rfl (setRow_heap _ _ _ _ _ (0, 0) YR.out) Tryd.underlying28 rfl (sizeL _ _)) rfl ⟨_, l, ⟨M.n + 1, M.r⟩, rfl, by omega, HLS.out, hMz, ?_, ?_⟩
      · exact (Own.setRow YO.out _ (by omega)).mono (by omega) (by rw [size_setRow]; omega)
      · exact YD.out.on hg hgw (below_setRow (Below.refl _ _) (Nat.le_refl _) _)
    · have n0 : (x == 0) = false := by simp [c0]
      have n1 : (x == 1) = false := by simp [c1]
      go_wp2_with (first | (refine wpList_load_row rfl 28 _ rfl w3.heap.size rfl 28 (lc (.slice ao2 L2 cap2) M) (0, 0) _ L5.out Tryd.underlying28 rfl (sizeL _ _) ?_) | (refine wpList_store_row rfl 28 _ _ rfl w.heap.size (lc (.slice ao2 L2 cap2) M) rfl rfl 28 _ R5.out (sizeL _ _) rfl (oneL _ rfl) ?_))
      refine bodyPost_ret (v := .agg (lc (.slice ao2 L2 cap2) M)) (results_cell_row rfl _ _ w.heap.size 28 _ (0, 0) _ rfl (setRow_heap _ _ _ _ _ (0, 0) R5.out) Tryd.underlying28 rfl (sizeL _ _)) rfl ⟨_, l, M, rfl, by omega, HLS.out, hMz, ?_, ?_⟩
      · exact (Own.setRow O5.out _ (by omega)).mono (by omega) (by rw [size_setRow]; omega)
      · exact D5.out.on hg hgw (below_setRow (Below.refl _ _) (Nat.le_refl _) _)

end Go.Proofs.YtccnhhdcdamgmaaDoor.Lg
