/- Chapter 7, the specification's side: several more. -/
import Derived.Test.YthbonifpdpknnacDoorEd4
namespace Go.Proofs.YthbonifpdpknnacDoor.Ed
open Go.RowKit Go.Proofs.YthbonifpdpknnacDoor.Mem Go.Proofs.YthbonifpdpknnacDoor.Laws Go.Proofs.YthbonifpdpknnacDoor.Bytes Go.Proofs.YthbonifpdpknnacDoor.Sha Go.Proofs.YthbonifpdpknnacDoor.Tr
set_option linter.unusedVariables false
set_option linter.unusedSimpArgs false

theorem carry_shortA (n : Nat) : ∀ (hs : List ByteArray) (h : ByteArray), (carry n hs h).length ≤ hs.length + 1 := by
  refine natRec (P := fun n => ∀ (hs : List ByteArray) (h : ByteArray), (carry n hs h).length ≤ hs.length + 1) ?_ n
  intro n ih hs h
  by_cases hn : n % 2 = 1
  · rw [carry_if, if_pos hn]
    have := ih (n / 2) (by omega) hs.dropLast (nodeH (hs.getLastD ⟨#[]⟩) h)
    rw [List.length_dropLast] at this
    omega
  · rw [carry_even hn]; simp
theorem addE_shortA (n : Int) (hs : List ByteArray) (s : ByteArray) : (addE n hs s).2.1.length ≤ hs.length + 1 := by
  unfold addE
  split
  · exact carry_shortA _ _ _
  · exact Nat.le_succ _
theorem Own.keep1 {w w' : World} {lo hi : Nat} {e : TypeId} {v : Value} {cs : List Value} (h : Own w lo hi e v cs) (hk : ∀ g, v.ownBlock = some g → w'.heap[g]? = w.heap[g]?) : Own w' lo hi e v cs := by
  obtain ⟨⟨h1, h2⟩, h3⟩ := h
  refine ⟨⟨h1, ?_⟩, h3⟩
  rcases h2 with h2 | ⟨g, cap, cur, rfl, hb, hg, r⟩
  · exact .inl h2
  · exact .inr ⟨g, cap, cur, rfl, hb, by rw [hk g rfl]; exact hg, r⟩
theorem Own.from {w : World} {lo hi : Nat} {e : TypeId} {v : Value} {cs : List Value} (h : Own w lo hi e v cs) {g : Nat} (hg : v.ownBlock = some g) : lo ≤ g ∧ g < hi := by
  obtain ⟨⟨h1, h2⟩, h3⟩ := h
  refine ⟨?_, h3 g hg⟩
  rcases h2 with ⟨rfl, _⟩ | ⟨g', cap, cur, rfl, hb, _⟩
  · cases hg
  · simp only [Value.ownBlock, Option.some.injEq] at hg
    omega

set_option maxRecDepth 1000000 in
set_option maxHeartbeats 8000000 in
theorem all_spec (w : World) (n : Int) (v vl : Value) (hs l : List ByteArray) (h : Sl w v (ss hs)) (h2 : Sl w vl (ss l)) (hl : hs.length ≤ 1000000000) (hll : hs.length + l.length ≤ 1000000000) (hz : ∀ s ∈ l, s.size ≤ 10000000000) :
    Calls Tryd.prog 22 #[.agg #[.int .i64 n, v], vl] w fun e w' => ∃ v', e = .returned (.tuple #[.agg #[.int .i64 (allE n hs l).1, v'], .bool (allE n hs l).2.2]) ∧ Own w' w.heap.size w'.heap.size 9 v' (ss (allE n hs l).2.1) ∧ Below w.heap.size w w' := by
  obtain ⟨W, hW⟩ : ∃ W, W = (w.alloc (.cells #[.int .i64 n, v] 25)).alloc (.cells #[.int .i64 0, .slice none 0 0] 25) := ⟨_, rfl⟩
  have r0 : W.heap[w.heap.size]? = some (.cells (ee n v) 25 (0, 0)) := by rw [hW]; exact heap_alloc2_old w _ _
  have r1 : W.heap[w.heap.size + 1]? = some (.cells (ee 0 (.slice none 0 0)) 25 (0, 0)) := by
    rw [hW]
    have := heap_alloc_new (w.alloc (.cells #[.int .i64 n, v] 25)) (.cells #[.int .i64 0, .slice none 0 0] 25)
    simpa [ee] using this
  have hB : Below w.heap.size w W := by rw [hW]; exact ((Below.refl _ _).alloc (Nat.le_refl _) _).alloc (by simp) _
  have hz2' : W.heap.size = w.heap.size + 2 := by rw [hW]; simp
  have q := copy_spec W n v hs (h.later hB) hl
  have HS : Hid (Sl w v (ss hs)) := h
  have HSL : Hid (Sl w vl (ss l)) := h2
  have HR0 : Hid _ := r0
  have HR1 : Hid _ := r1
  have HB : Hid _ := hB
  have HZ : Hid _ := hz2'
  have HW : Hid _ := hW
  rw [hW] at r0
  obtain ⟨ao, cap, rfl, hcap⟩ := h.form
  obtain ⟨aol, capl, rfl, hcapl⟩ := h2.form
  simp only [ss_len] at *
  have HL0 : Hid _ := r0
  clear hW r0 r1 hB hz2' h h2
  go_enter Tryd.func22, Tryd.ntmps22
  go_wp2_with (refine wpList_load_row rfl 25 _ rfl w.heap.size rfl 25 (ee n (.slice ao hs.length cap)) (0, 0) _ HL0.out Tryd.underlying25 rfl (sizeEd _ _) ?_)
  rw [← HW.out]
  refine q.mono ?_
  rintro e w1 ⟨v1, rfl, o1, b1⟩
  obtain ⟨ao1, L1, cap1, rfl, _, _⟩ := o1.form
  obtain ⟨W1, HW1, hb1, hy1, R1⟩ : ∃ X, Hid (w1.alloc (.cells #[.int .i64 n, .slice ao1 L1 cap1] 25) = X) ∧ Below w1.heap.size w1 X ∧ w1.heap.size + 1 ≤ X.heap.size ∧ Hid (X.heap[w1.heap.size]? = some (.cells (ee n (.slice ao1 L1 cap1)) 25 (0, 0))) := ⟨_, rfl, (Below.refl _ _).alloc (Nat.le_refl _) _, by simp, heap_alloc_new _ _⟩
  obtain ⟨g1, hgg⟩ : ∃ g1, w1.heap.size = g1 := ⟨_, rfl⟩
  have z1 : w.heap.size + 2 ≤ g1 := by rw [← hgg]; have := b1.size; rw [HZ.out] at this; exact this
  have KO : Hid (Own W1 (w.heap.size + 2) W1.heap.size 9 (.slice ao1 L1 cap1) (ss hs)) := (o1.later hb1 (Nat.le_refl _)).mono (by rw [HZ.out]; exact Nat.le_refl _) (by omega)
  have KK : Hid (∀ g, (Value.slice ao1 L1 cap1).ownBlock = some g → g ≠ g1) := fun g hg => by have := (Own.from o1 hg).2; omega
  have K0 : Hid (W1.heap[w.heap.size]? = some (.cells (ee n (.slice ao hs.length cap)) 25 (0, 0))) := rowKeep (rowKeep HR0.out b1) hb1
  have K1 : Hid (W1.heap[w.heap.size + 1]? = some (.cells (ee 0 (.slice none 0 0)) 25 (0, 0))) := rowKeep (rowKeep HR1.out b1) hb1
  have KB : Hid (Below w.heap.size w W1) := (HB.out.trans (b1.mono HB.out.size)).trans (hb1.mono (HB.out.trans (b1.mono HB.out.size)).size)
  have KZ : Hid (g1 + 1 ≤ W1.heap.size) := by show _ ≤ _; omega
  have hg1 : Hid (w.heap.size + 2 ≤ g1) := z1
  have KG : Hid (W1.heap[g1]? = some (.cells (ee n (.slice ao1 L1 cap1)) 25 (0, 0))) := by show _ = _; rw [← hgg]; exact R1.out
  have HWg : Hid _ := HW1.out
  have HGG : Hid (w1.heap.size = g1) := hgg
  clear HL0 HW q HB HZ b1 HR0 HR1 o1 hb1 hy1 R1 z1 HW1 hgg
  go_wp2
  rw [HWg.out]
  simp only [HGG.out]
  clear HWg HGG
  go_loopw [7] (fun i wr => ∃ (k : Nat) (m : Int) (q : List ByteArray) (vo : Value), k ≤ l.length ∧ i = .int .i64 (k : Int) ∧ Hid (goE m q (l.drop k) = goE n hs l) ∧ Hid (q.length ≤ hs.length + k) ∧ Hid (Own wr (w.heap.size + 2) wr.heap.size 9 vo (ss q)) ∧ Hid (∀ g, vo.ownBlock = some g → g ≠ g1) ∧ Hid (wr.heap[w.heap.size]? = some (.cells (ee n (.slice ao hs.length cap)) 25 (0, 0))) ∧ Hid (wr.heap[w.heap.size + 1]? = some (.cells (ee 0 (.slice none 0 0)) 25 (0, 0))) ∧ Hid (wr.heap[g1]? = some (.cells (ee m vo) 25 (0, 0))) ∧ Hid (Below w.heap.size w wr) ∧ Hid (g1 + 1 ≤ wr.heap.size)) (fun i _ => l.length - (intOf i).toNat)
  case atStart => exact ⟨0, n, hs, .slice ao1 L1 cap1, Nat.zero_le _, rfl, rfl, Nat.le_refl _, KO, KK, K0, K1, KG, KB, KZ⟩
  case round =>
    obtain ⟨k, m, q, vo, hk, rfl, HE, HQ, HO, HK, H0, H1, HG, HBr, HZr⟩ := hrel
    clear KO KK K0 K1 KG KB KZ
    obtain ⟨aoq, Lq, capq, rfl, _, _⟩ := HO.out.form
    by_cases hlt : k < l.length
    · obtain ⟨s, hs0⟩ : ∃ s, l[k]? = some s := ⟨l[k], by simp⟩
      have hlt' : (k : Int) < (l.length : Int) := by omega
      obtain ⟨b, off, rfl, hcell⟩ : ∃ b off, aol = some ⟨b, off, none⟩ ∧ wr.cell? ⟨b, off + k, none⟩ = some (.string s) := by
        obtain ⟨ao', c', he, _, _, hr⟩ := HSL.out.later HBr.out
        rw [ss_len] at he hr
        simp only [Value.slice.injEq] at he
        obtain ⟨rfl, _, rfl⟩ := he
        obtain ⟨b, off, he, hc⟩ := hr (by omega)
        exact ⟨b, off, he, by rw [hc k hlt]; simp [ss, hs0]⟩
      have hD : l.drop k = s :: l.drop (k + 1) := by
        obtain ⟨hk', rfl⟩ := List.getElem?_eq_some_iff.1 hs0
        exact List.drop_eq_getElem_cons hk'
      have hq0 := HQ.out
      have qa : ∀ W, Sl W _ (ss q) → _ := fun W hW => add_spec W m (.slice aoq Lq capq) q s hW (by omega) (hz s (List.mem_of_getElem? hs0))
      have hsh := addE_shortA m q s
      obtain ⟨n2, q2, ok, hA⟩ : ∃ n2 q2 ok, addE m q s = (n2, q2, ok) := ⟨_, _, _, rfl⟩
      have HT : Hid (ok = true → goE n2 q2 (l.drop (k + 1)) = goE n hs l) := by
        intro hok
        rw [← HE.out, hD, goE, hA, if_pos hok]
      have HF : Hid (ok = false → allE n hs l = (n, hs, false)) := by
        intro hok
        unfold allE
        rw [← HE.out, hD, goE, hA, if_neg (by rw [hok]; simp)]
      simp only [hA] at qa hsh
      have hq2 : Hid (q2.length ≤ hs.length + (k + 1)) := by show _ ≤ _; omega
      have k0 : wr.cell? ⟨g1, 0, none⟩ = some (.int .i64 m) := row_at HG.out 0
      have k1 : wr.cell? ⟨g1, 1, none⟩ = some (.slice aoq Lq capq) := row_at HG.out 1
      have so : Hid (Sl wr (.slice aoq Lq capq) (ss q)) := HO.out.sl
      have zr := HZr.out
      clear hs0 hD HE HQ hA hsh hq0
      go_wp2_with fail
      refine wp_region_held_drew (S := fun w' => w'.cell? ⟨g1, 0, none⟩ = some (.int .i64 m) ∧ w'.cell? ⟨g1, 1, none⟩ = some (.slice aoq Lq capq) ∧ w'.cell? ⟨b, off + k, none⟩ = some (.string s)) (by kernel_rfl) ⟨k0, k1, hcell⟩ (fun hHeld => ?_)
      (refine wpAnyH_take (i := 0) (v := ?v0x1) rfl (by kernel_rfl) (by kernel_rfl) (by kernel_rfl) (fun _ _ _ h => h) (Or.inl ⟨by rfl, ?hy0x1⟩) (by assumption) ?rest0x1; case hy0x1 => (intro w hSw; (try dsimp only at hSw); go_split_ands; go_simp; (try with_reducible rfl)))
      try simp only [Act.put, List.setIfInBounds_toArray, List.set_cons_zero, List.set_cons_succ, List.getElem_toArray, List.getElem_cons_zero, List.getElem_cons_succ]
      (refine wpAnyH_take (i := 1) (v := ?v1x2) rfl (by kernel_rfl) (by kernel_rfl) (by kernel_rfl) (fun _ _ _ h => h) (Or.inl ⟨by rfl, ?hy1x2⟩) (by assumption) ?rest1x2; case hy1x2 => (intro w hSw; (try dsimp only at hSw); go_split_ands; go_simp; (try with_reducible rfl)))
      try simp only [Act.put, List.setIfInBounds_toArray, List.set_cons_zero, List.set_cons_succ, List.getElem_toArray, List.getElem_cons_zero, List.getElem_cons_succ]
      (refine wpAnyH_take (i := 2) (v := ?v2x3) rfl (by kernel_rfl) (by kernel_rfl) (by kernel_rfl) (fun _ _ _ h => h) (Or.inl ⟨by rfl, ?hy2x3⟩) (by assumption) ?rest2x3; case hy2x3 => (intro w hSw; (try dsimp only at hSw); go_split_ands; go_simp; (try with_reducible rfl)))
      try simp only [Act.put, List.setIfInBounds_toArray, List.set_cons_zero, List.set_cons_succ, List.getElem_toArray, List.getElem_cons_zero, List.getElem_cons_succ]
      (refine wpAnyH_take (i := 3) (v := ?v3x4) rfl (by kernel_rfl) (by kernel_rfl) (by kernel_rfl) (fun _ _ _ h => h) (Or.inl ⟨by rfl, ?hy3x4⟩) (by assumption) ?rest3x4; case hy3x4 => (intro w hSw; (try dsimp only at hSw); go_split_ands; go_simp; (try with_reducible rfl)))
      try simp only [Act.put, List.setIfInBounds_toArray, List.set_cons_zero, List.set_cons_succ, List.getElem_toArray, List.getElem_cons_zero, List.getElem_cons_succ]
      (refine wpAnyH_take (i := 4) (v := ?v4x5) rfl (by kernel_rfl) (by kernel_rfl) (by kernel_rfl) (fun _ _ _ h => h) (Or.inl ⟨by rfl, ?hy4x5⟩) (by assumption) ?rest4x5; case hy4x5 => (intro w hSw; (try dsimp only at hSw); go_split_ands; go_simp; (try with_reducible rfl)))
      try simp only [Act.put, List.setIfInBounds_toArray, List.set_cons_zero, List.set_cons_succ, List.getElem_toArray, List.getElem_cons_zero, List.getElem_cons_succ]
      refine wpAnyH_ready (rs := [5, 9]) (by kernel_rfl) (by simp) ?_
      refine AllReadyH.cons rfl (fun K hK => ?_) (AllReadyH.cons rfl (fun K hK => ?_) AllReadyH.nil)
      · go_simp
        refine (qa wr.drew so.out).mono ?_
        rintro e w2 ⟨v2, rfl, o2, b2⟩
        refine hK.out _ _ ⟨keepR (W := wr.drew) hHeld.1 b2, keepR (W := wr.drew) hHeld.2.1 b2, keepR (W := wr.drew) hHeld.2.2 b2⟩ (fun hHeld => ?_)
        clear hK K
        try simp only [Act.put, List.setIfInBounds_toArray, List.set_cons_zero, List.set_cons_succ, List.getElem_toArray, List.getElem_cons_zero, List.getElem_cons_succ]
        obtain ⟨ao2, L2, cap2, rfl, _, _⟩ := o2.form
        have s2 : wr.heap.size ≤ w2.heap.size := b2.size
        have hbn : b ≠ w2.heap.size := by have := World.block_lt_of_cell? w2 _ hHeld.2.2; exact Nat.ne_of_lt this
        (refine wpAnyH_take (i := 6) (v := ?v6x6) rfl (by kernel_rfl) (by kernel_rfl) (by kernel_rfl) (fun _ _ _ h => h) (Or.inl ⟨by rfl, ?hy6x6⟩) (by assumption) ?rest6x6; case hy6x6 => (intro w hSw; (try dsimp only at hSw); go_split_ands; go_simp; (try with_reducible rfl)))
        try simp only [Act.put, List.setIfInBounds_toArray, List.set_cons_zero, List.set_cons_succ, List.getElem_toArray, List.getElem_cons_zero, List.getElem_cons_succ]
        (refine wpAnyH_take (i := 7) (v := ?v7x7) rfl (by kernel_rfl) (by kernel_rfl) (by kernel_rfl) (fun _ _ _ h => h) (Or.inl ⟨by rfl, ?hy7x7⟩) (by assumption) ?rest7x7; case hy7x7 => (intro w hSw; (try dsimp only at hSw); go_split_ands; go_simp; (try with_reducible rfl)))
        try simp only [Act.put, List.setIfInBounds_toArray, List.set_cons_zero, List.set_cons_succ, List.getElem_toArray, List.getElem_cons_zero, List.getElem_cons_succ]
        (refine wpAnyH_take (i := 8) (v := ?v8x8) rfl (by kernel_rfl) (by kernel_rfl) (by kernel_rfl) (fun _ _ _ h => h) (Or.inl ⟨by rfl, ?hy8x8⟩) (by assumption) ?rest8x8; case hy8x8 => (intro w hSw; (try dsimp only at hSw); go_split_ands; go_simp; (try with_reducible rfl)))
        try simp only [Act.put, List.setIfInBounds_toArray, List.set_cons_zero, List.set_cons_succ, List.getElem_toArray, List.getElem_cons_zero, List.getElem_cons_succ]
        refine wpAnyH_ready (rs := [9]) (by kernel_rfl) (by simp) ?_
        refine AllReadyH.cons rfl (fun K hK => ?_) AllReadyH.nil
        go_simp
        refine hK.out _ _ ⟨keepR (W := w2) hHeld.1 ((Below.refl _ _).alloc (Nat.le_refl _) _), keepR (W := w2) hHeld.2.1 ((Below.refl _ _).alloc (Nat.le_refl _) _), keepR (W := w2) hHeld.2.2 ((Below.refl _ _).alloc (Nat.le_refl _) _)⟩ (fun hHeld => ?_)
        clear hK K
        try simp only [Act.put, List.setIfInBounds_toArray, List.set_cons_zero, List.set_cons_succ, List.getElem_toArray, List.getElem_cons_zero, List.getElem_cons_succ]
        have bb : Below w2.heap.size w2 (w2.alloc (.cells #[.int .i64 0, .slice none 0 0] 25)) := (Below.refl _ _).alloc (Nat.le_refl _) _
        have JN : (w2.alloc (.cells #[.int .i64 0, .slice none 0 0] 25)).heap[w2.heap.size]? = some (.cells (ee 0 (.slice none 0 0)) 25 (0, 0)) := heap_alloc_new _ _
        have J0 : (w2.alloc (.cells #[.int .i64 0, .slice none 0 0] 25)).heap[w.heap.size]? = some (.cells (ee n (.slice ao hs.length cap)) 25 (0, 0)) := rowKeep (rowKeep (w := wr.drew) H0.out b2) bb
        have J1 : (w2.alloc (.cells #[.int .i64 0, .slice none 0 0] 25)).heap[w.heap.size + 1]? = some (.cells (ee 0 (.slice none 0 0)) 25 (0, 0)) := rowKeep (rowKeep (w := wr.drew) H1.out b2) bb
        have JG : (w2.alloc (.cells #[.int .i64 0, .slice none 0 0] 25)).heap[g1]? = some (.cells (ee m (.slice aoq Lq capq)) 25 (0, 0)) := rowKeep (rowKeep (w := wr.drew) HG.out b2) bb
        have JB0 : Below w.heap.size w w2 := (Below.drew HBr.out).trans (b2.mono (Below.drew HBr.out).size)
        have JB : Below w.heap.size w (w2.alloc (.cells #[.int .i64 0, .slice none 0 0] 25)) := JB0.alloc JB0.size _
        have JZ : g1 + 1 ≤ w2.heap.size := by omega
        have JQ : ∀ g, (Value.slice ao2 L2 cap2).ownBlock = some g → g ≠ g1 := fun g hg => by have : wr.heap.size ≤ g := (Own.from o2 hg).1; omega
        have JK : ∀ g, (Value.slice ao2 L2 cap2).ownBlock = some g → g ≠ w2.heap.size := fun g hg => by have := (Own.from o2 hg).2; omega
        have o2 : Own (w2.alloc (.cells #[.int .i64 0, .slice none 0 0] 25)) wr.heap.size w2.heap.size 9 (.slice ao2 L2 cap2) (ss q2) := o2.later bb (Nat.le_refl _)
        refine wpAnyH_ready (rs := [10]) (by kernel_rfl) (by simp) ?_
        refine AllReadyH.cons rfl (fun K hK => ?_) AllReadyH.nil
        rw [if_pos (by rfl)]
        refine wp_store_row 25 _ _ rfl w2.heap.size (ee n2 (.slice ao2 L2 cap2)) rfl rfl 25 _ JN (sizeEd _ _) rfl (oneEd _ rfl) ?_
        refine hK.out _ _ ⟨cell_row (by show g1 ≠ _; omega) hHeld.1, cell_row (by show g1 ≠ _; omega) hHeld.2.1, cell_row (by exact hbn) hHeld.2.2⟩ (fun hHeld => ?_)
        clear hK K
        try simp only [Act.put, List.setIfInBounds_toArray, List.set_cons_zero, List.set_cons_succ, List.getElem_toArray, List.getElem_cons_zero, List.getElem_cons_succ]
        (refine wpAnyH_take (i := 11) (v := ?v11x9) rfl (by kernel_rfl) (by kernel_rfl) (by kernel_rfl) (fun _ _ _ h => h) (Or.inl ⟨by rfl, ?hy11x9⟩) (by assumption) ?rest11x9; case hy11x9 => (intro w hSw; (try dsimp only at hSw); go_split_ands; go_simp; (try with_reducible rfl)))
        try simp only [Act.put, List.setIfInBounds_toArray, List.set_cons_zero, List.set_cons_succ, List.getElem_toArray, List.getElem_cons_zero, List.getElem_cons_succ]
        refine wpAnyH_done (by kernel_rfl) ?_ _
        clear hHeld k0 k1 hcell
        have N1 : Hid (((w2.alloc (.cells #[.int .i64 0, .slice none 0 0] 25)).setRow w2.heap.size (ee n2 (.slice ao2 L2 cap2))).heap[w2.heap.size]? = some (.cells (ee n2 (.slice ao2 L2 cap2)) 25 (0, 0))) := setRow_heap _ _ _ _ _ (0, 0) JN
        have P0 : Hid (((w2.alloc (.cells #[.int .i64 0, .slice none 0 0] 25)).setRow w2.heap.size (ee n2 (.slice ao2 L2 cap2))).heap[w.heap.size]? = some (.cells (ee n (.slice ao hs.length cap)) 25 (0, 0))) := (setRow_other _ _ _ _ (by have := hg1.out; have := JZ; omega)).trans J0
        have P1 : Hid (((w2.alloc (.cells #[.int .i64 0, .slice none 0 0] 25)).setRow w2.heap.size (ee n2 (.slice ao2 L2 cap2))).heap[w.heap.size + 1]? = some (.cells (ee 0 (.slice none 0 0)) 25 (0, 0))) := (setRow_other _ _ _ _ (by have := hg1.out; have := JZ; omega)).trans J1
        have PG : Hid (((w2.alloc (.cells #[.int .i64 0, .slice none 0 0] 25)).setRow w2.heap.size (ee n2 (.slice ao2 L2 cap2))).heap[g1]? = some (.cells (ee m (.slice aoq Lq capq)) 25 (0, 0))) := (setRow_other _ _ _ _ (by have := JZ; omega)).trans JG
        have PO : Hid (Own ((w2.alloc (.cells #[.int .i64 0, .slice none 0 0] 25)).setRow w2.heap.size (ee n2 (.slice ao2 L2 cap2))) (w.heap.size + 2) ((w2.alloc (.cells #[.int .i64 0, .slice none 0 0] 25)).setRow w2.heap.size (ee n2 (.slice ao2 L2 cap2))).heap.size 9 (.slice ao2 L2 cap2) (ss q2)) := (Own.keep1 o2 (fun g hg => setRow_other _ _ _ _ (JK g hg))).mono (by have := JZ; have := hg1.out; omega) (by simp)
        have PK : Hid (∀ g, (Value.slice ao2 L2 cap2).ownBlock = some g → g ≠ g1) := JQ
        have PB : Hid (Below w.heap.size w ((w2.alloc (.cells #[.int .i64 0, .slice none 0 0] 25)).setRow w2.heap.size (ee n2 (.slice ao2 L2 cap2)))) := below_setRow JB (by have := JZ; have := hg1.out; omega) _
        have PZ : Hid (g1 + 1 ≤ ((w2.alloc (.cells #[.int .i64 0, .slice none 0 0] 25)).setRow w2.heap.size (ee n2 (.slice ao2 L2 cap2))).heap.size) := by show _ ≤ _; have := JZ; simp; omega
        clear JN J0 J1 JG JB JZ JQ JK o2
        obtain ⟨X, hX⟩ : ∃ X, (w2.alloc (.cells #[.int .i64 0, .slice none 0 0] 25)).setRow w2.heap.size (ee n2 (.slice ao2 L2 cap2)) = X := ⟨_, rfl⟩
        rw [hX] at N1 P0 P1 PG PO PB PZ ⊢
        obtain ⟨gn, hgn⟩ : ∃ gn, w2.heap.size = gn := ⟨_, rfl⟩
        rw [hgn] at N1 ⊢
        clear hX hgn
        cases ok with
        | true =>
          have HG2 : Hid (goE n2 q2 (l.drop (k + 1)) = goE n hs l) := HT.out rfl
          have PO2 : Hid (Own (X.setRow g1 (ee n2 (.slice ao2 L2 cap2))) (w.heap.size + 2) (X.setRow g1 (ee n2 (.slice ao2 L2 cap2))).heap.size 9 (.slice ao2 L2 cap2) (ss q2)) := (Own.keep1 PO.out (fun g hg => setRow_other _ _ _ _ (PK.out g hg))).mono (Nat.le_refl _) (by simp)
          have P02 : Hid ((X.setRow g1 (ee n2 (.slice ao2 L2 cap2))).heap[w.heap.size]? = some (.cells (ee n (.slice ao hs.length cap)) 25 (0, 0))) := (setRow_other _ _ _ _ (by have := hg1.out; omega)).trans P0.out
          have P12 : Hid ((X.setRow g1 (ee n2 (.slice ao2 L2 cap2))).heap[w.heap.size + 1]? = some (.cells (ee 0 (.slice none 0 0)) 25 (0, 0))) := (setRow_other _ _ _ _ (by have := hg1.out; omega)).trans P1.out
          have PG2 : Hid ((X.setRow g1 (ee n2 (.slice ao2 L2 cap2))).heap[g1]? = some (.cells (ee n2 (.slice ao2 L2 cap2)) 25 (0, 0))) := setRow_heap _ _ _ _ _ (0, 0) PG.out
          have PB2 : Hid (Below w.heap.size w (X.setRow g1 (ee n2 (.slice ao2 L2 cap2)))) := below_setRow PB.out (by have := hg1.out; omega) _
          have PZ2 : Hid (g1 + 1 ≤ (X.setRow g1 (ee n2 (.slice ao2 L2 cap2))).heap.size) := by show _ ≤ _; have := PZ.out; simp; exact this
          go_wp2_with (first | (refine wpList_load_row rfl 25 _ rfl gn rfl 25 (ee n2 (.slice ao2 L2 cap2)) (0, 0) _ N1.out Tryd.underlying25 rfl (sizeEd _ _) ?_) | (refine wpList_store_row rfl 25 _ _ rfl g1 (ee n2 (.slice ao2 L2 cap2)) rfl rfl 25 _ PG.out (sizeEd _ _) rfl (oneEd _ rfl) ?_))
          go_roundw
          case rel => exact ⟨k + 1, n2, q2, .slice ao2 L2 cap2, by omega, by go_num, HG2, hq2, PO2, PK, P02, P12, PG2, PB2, PZ2⟩
          case measure => simp [intOf]; omega
        | false =>
          have HN : Hid (allE n hs l = (n, hs, false)) := HF.out rfl
          have qc := copy_spec X n (.slice ao hs.length cap) hs (HS.out.later PB.out) hl
          go_wp2_with (refine wpList_load_row rfl 25 _ rfl w.heap.size rfl 25 (ee n (.slice ao hs.length cap)) (0, 0) _ P0.out Tryd.underlying25 rfl (sizeEd _ _) ?_)
          refine qc.mono ?_
          rintro e w5 ⟨v5, rfl, o5, b5⟩
          have J1 := rowKeep P1.out b5
          have JB : Below w.heap.size w w5 := PB.out.trans (b5.mono PB.out.size)
          have z5 : w.heap.size + 2 ≤ X.heap.size := by have := PZ.out; have := hg1.out; omega
          obtain ⟨ao5, L5, cap5, rfl, _, _⟩ := o5.form
          have HO5 : Hid (Own w5 X.heap.size w5.heap.size 9 (.slice ao5 L5 cap5) (ss hs)) := o5
          have HJ : Hid _ := J1
          have HJB : Hid _ := JB
          clear qc o5 J1 JB b5
          go_wp2_with (refine wpList_store_row rfl 25 _ _ rfl (w.heap.size + 1) (ee n (.slice ao5 L5 cap5)) rfl rfl 25 _ HJ.out (sizeEd _ _) rfl (oneEd _ rfl) ?_)
          refine bodyPost_ret (res_row_tmp rfl _ _ (w.heap.size + 1) 25 (ee n (.slice ao5 L5 cap5)) (0, 0) _ rfl (setRow_heap _ _ _ _ _ (0, 0) HJ.out) Tryd.underlying25 rfl (sizeEd _ _)) rfl ⟨.slice ao5 L5 cap5, by rw [HN.out]; rfl, ?_, below_setRow HJB.out (by omega) _⟩
          rw [HN.out]
          exact (HO5.out.setRow _ (by omega)).mono (by omega) (by simp)
      · go_simp
        refine hK.out _ _ ⟨keepR (W := wr.drew) hHeld.1 ((Below.refl _ _).alloc (Nat.le_refl _) _), keepR (W := wr.drew) hHeld.2.1 ((Below.refl _ _).alloc (Nat.le_refl _) _), keepR (W := wr.drew) hHeld.2.2 ((Below.refl _ _).alloc (Nat.le_refl _) _)⟩ (fun hHeld => ?_)
        clear hK K
        try simp only [Act.put, List.setIfInBounds_toArray, List.set_cons_zero, List.set_cons_succ, List.getElem_toArray, List.getElem_cons_zero, List.getElem_cons_succ]
        have bb : Below wr.heap.size wr (wr.drew.alloc (.cells #[.int .i64 0, .slice none 0 0] 25)) := (Below.drew (Below.refl _ _)).alloc (Nat.le_refl _) _
        have hza : (wr.drew.alloc (.cells #[.int .i64 0, .slice none 0 0] 25)).heap.size = wr.heap.size + 1 := by show (wr.heap.push _).size = _; simp
        have JN0 : (wr.drew.alloc (.cells #[.int .i64 0, .slice none 0 0] 25)).heap[wr.heap.size]? = some (.cells (ee 0 (.slice none 0 0)) 25 (0, 0)) := heap_alloc_new wr.drew _
        refine wpAnyH_ready (rs := [5]) (by kernel_rfl) (by simp) ?_
        refine AllReadyH.cons rfl (fun K hK => ?_) AllReadyH.nil
        go_simp
        refine (qa (wr.drew.alloc (.cells #[.int .i64 0, .slice none 0 0] 25)) (so.out.later bb)).mono ?_
        rintro e w2 ⟨v2, rfl, o2, b2⟩
        refine hK.out _ _ ⟨keepR (W := (wr.drew.alloc (.cells #[.int .i64 0, .slice none 0 0] 25))) hHeld.1 b2, keepR (W := (wr.drew.alloc (.cells #[.int .i64 0, .slice none 0 0] 25))) hHeld.2.1 b2, keepR (W := (wr.drew.alloc (.cells #[.int .i64 0, .slice none 0 0] 25))) hHeld.2.2 b2⟩ (fun hHeld => ?_)
        clear hK K
        try simp only [Act.put, List.setIfInBounds_toArray, List.set_cons_zero, List.set_cons_succ, List.getElem_toArray, List.getElem_cons_zero, List.getElem_cons_succ]
        obtain ⟨ao2, L2, cap2, rfl, _, _⟩ := o2.form
        have s2 : wr.heap.size + 1 ≤ w2.heap.size := by have := b2.size; rw [hza] at this; exact this
        have hbn : b ≠ wr.heap.size := by have := World.block_lt_of_cell? wr _ hcell; exact Nat.ne_of_lt this
        (refine wpAnyH_take (i := 6) (v := ?v6x10) rfl (by kernel_rfl) (by kernel_rfl) (by kernel_rfl) (fun _ _ _ h => h) (Or.inl ⟨by rfl, ?hy6x10⟩) (by assumption) ?rest6x10; case hy6x10 => (intro w hSw; (try dsimp only at hSw); go_split_ands; go_simp; (try with_reducible rfl)))
        try simp only [Act.put, List.setIfInBounds_toArray, List.set_cons_zero, List.set_cons_succ, List.getElem_toArray, List.getElem_cons_zero, List.getElem_cons_succ]
        (refine wpAnyH_take (i := 7) (v := ?v7x11) rfl (by kernel_rfl) (by kernel_rfl) (by kernel_rfl) (fun _ _ _ h => h) (Or.inl ⟨by rfl, ?hy7x11⟩) (by assumption) ?rest7x11; case hy7x11 => (intro w hSw; (try dsimp only at hSw); go_split_ands; go_simp; (try with_reducible rfl)))
        try simp only [Act.put, List.setIfInBounds_toArray, List.set_cons_zero, List.set_cons_succ, List.getElem_toArray, List.getElem_cons_zero, List.getElem_cons_succ]
        (refine wpAnyH_take (i := 8) (v := ?v8x12) rfl (by kernel_rfl) (by kernel_rfl) (by kernel_rfl) (fun _ _ _ h => h) (Or.inl ⟨by rfl, ?hy8x12⟩) (by assumption) ?rest8x12; case hy8x12 => (intro w hSw; (try dsimp only at hSw); go_split_ands; go_simp; (try with_reducible rfl)))
        try simp only [Act.put, List.setIfInBounds_toArray, List.set_cons_zero, List.set_cons_succ, List.getElem_toArray, List.getElem_cons_zero, List.getElem_cons_succ]
        have JN : w2.heap[wr.heap.size]? = some (.cells (ee 0 (.slice none 0 0)) 25 (0, 0)) := rowKeep JN0 b2
        have J0 : w2.heap[w.heap.size]? = some (.cells (ee n (.slice ao hs.length cap)) 25 (0, 0)) := rowKeep (rowKeep H0.out bb) b2
        have J1 : w2.heap[w.heap.size + 1]? = some (.cells (ee 0 (.slice none 0 0)) 25 (0, 0)) := rowKeep (rowKeep H1.out bb) b2
        have JG : w2.heap[g1]? = some (.cells (ee m (.slice aoq Lq capq)) 25 (0, 0)) := rowKeep (rowKeep HG.out bb) b2
        have JB0 : Below w.heap.size w (wr.drew.alloc (.cells #[.int .i64 0, .slice none 0 0] 25)) := HBr.out.trans (bb.mono HBr.out.size)
        have JB : Below w.heap.size w w2 := JB0.trans (b2.mono JB0.size)
        have JZ : g1 + 1 ≤ wr.heap.size := by omega
        rw [hza] at o2
        have JQ : ∀ g, (Value.slice ao2 L2 cap2).ownBlock = some g → g ≠ g1 := fun g hg => by have : wr.heap.size + 1 ≤ g := (Own.from o2 hg).1; omega
        have JK : ∀ g, (Value.slice ao2 L2 cap2).ownBlock = some g → g ≠ wr.heap.size := fun g hg => by have := (Own.from o2 hg).1; omega
        refine wpAnyH_ready (rs := [10]) (by kernel_rfl) (by simp) ?_
        refine AllReadyH.cons rfl (fun K hK => ?_) AllReadyH.nil
        rw [if_pos (by rfl)]
        refine wp_store_row 25 _ _ rfl wr.heap.size (ee n2 (.slice ao2 L2 cap2)) rfl rfl 25 _ JN (sizeEd _ _) rfl (oneEd _ rfl) ?_
        refine hK.out _ _ ⟨cell_row (by show g1 ≠ _; omega) hHeld.1, cell_row (by show g1 ≠ _; omega) hHeld.2.1, cell_row (by exact hbn) hHeld.2.2⟩ (fun hHeld => ?_)
        clear hK K
        try simp only [Act.put, List.setIfInBounds_toArray, List.set_cons_zero, List.set_cons_succ, List.getElem_toArray, List.getElem_cons_zero, List.getElem_cons_succ]
        (refine wpAnyH_take (i := 11) (v := ?v11x13) rfl (by kernel_rfl) (by kernel_rfl) (by kernel_rfl) (fun _ _ _ h => h) (Or.inl ⟨by rfl, ?hy11x13⟩) (by assumption) ?rest11x13; case hy11x13 => (intro w hSw; (try dsimp only at hSw); go_split_ands; go_simp; (try with_reducible rfl)))
        try simp only [Act.put, List.setIfInBounds_toArray, List.set_cons_zero, List.set_cons_succ, List.getElem_toArray, List.getElem_cons_zero, List.getElem_cons_succ]
        refine wpAnyH_done (by kernel_rfl) ?_ _
        clear hHeld k0 k1 hcell
        have N1 : Hid ((w2.setRow wr.heap.size (ee n2 (.slice ao2 L2 cap2))).heap[wr.heap.size]? = some (.cells (ee n2 (.slice ao2 L2 cap2)) 25 (0, 0))) := setRow_heap _ _ _ _ _ (0, 0) JN
        have P0 : Hid ((w2.setRow wr.heap.size (ee n2 (.slice ao2 L2 cap2))).heap[w.heap.size]? = some (.cells (ee n (.slice ao hs.length cap)) 25 (0, 0))) := (setRow_other _ _ _ _ (by have := hg1.out; have := JZ; omega)).trans J0
        have P1 : Hid ((w2.setRow wr.heap.size (ee n2 (.slice ao2 L2 cap2))).heap[w.heap.size + 1]? = some (.cells (ee 0 (.slice none 0 0)) 25 (0, 0))) := (setRow_other _ _ _ _ (by have := hg1.out; have := JZ; omega)).trans J1
        have PG : Hid ((w2.setRow wr.heap.size (ee n2 (.slice ao2 L2 cap2))).heap[g1]? = some (.cells (ee m (.slice aoq Lq capq)) 25 (0, 0))) := (setRow_other _ _ _ _ (by have := JZ; omega)).trans JG
        have PO : Hid (Own (w2.setRow wr.heap.size (ee n2 (.slice ao2 L2 cap2))) (w.heap.size + 2) (w2.setRow wr.heap.size (ee n2 (.slice ao2 L2 cap2))).heap.size 9 (.slice ao2 L2 cap2) (ss q2)) := (Own.keep1 o2 (fun g hg => setRow_other _ _ _ _ (JK g hg))).mono (by have := JZ; have := hg1.out; omega) (by simp)
        have PK : Hid (∀ g, (Value.slice ao2 L2 cap2).ownBlock = some g → g ≠ g1) := JQ
        have PB : Hid (Below w.heap.size w (w2.setRow wr.heap.size (ee n2 (.slice ao2 L2 cap2)))) := below_setRow JB (by have := JZ; have := hg1.out; omega) _
        have PZ : Hid (g1 + 1 ≤ (w2.setRow wr.heap.size (ee n2 (.slice ao2 L2 cap2))).heap.size) := by show _ ≤ _; have := JZ; simp; omega
        clear JN J0 J1 JG JB JZ JQ JK o2
        obtain ⟨X, hX⟩ : ∃ X, w2.setRow wr.heap.size (ee n2 (.slice ao2 L2 cap2)) = X := ⟨_, rfl⟩
        rw [hX] at N1 P0 P1 PG PO PB PZ ⊢
        obtain ⟨gn, hgn⟩ : ∃ gn, wr.heap.size = gn := ⟨_, rfl⟩
        rw [hgn] at N1 ⊢
        clear hX hgn
        cases ok with
        | true =>
          have HG2 : Hid (goE n2 q2 (l.drop (k + 1)) = goE n hs l) := HT.out rfl
          have PO2 : Hid (Own (X.setRow g1 (ee n2 (.slice ao2 L2 cap2))) (w.heap.size + 2) (X.setRow g1 (ee n2 (.slice ao2 L2 cap2))).heap.size 9 (.slice ao2 L2 cap2) (ss q2)) := (Own.keep1 PO.out (fun g hg => setRow_other _ _ _ _ (PK.out g hg))).mono (Nat.le_refl _) (by simp)
          have P02 : Hid ((X.setRow g1 (ee n2 (.slice ao2 L2 cap2))).heap[w.heap.size]? = some (.cells (ee n (.slice ao hs.length cap)) 25 (0, 0))) := (setRow_other _ _ _ _ (by have := hg1.out; omega)).trans P0.out
          have P12 : Hid ((X.setRow g1 (ee n2 (.slice ao2 L2 cap2))).heap[w.heap.size + 1]? = some (.cells (ee 0 (.slice none 0 0)) 25 (0, 0))) := (setRow_other _ _ _ _ (by have := hg1.out; omega)).trans P1.out
          have PG2 : Hid ((X.setRow g1 (ee n2 (.slice ao2 L2 cap2))).heap[g1]? = some (.cells (ee n2 (.slice ao2 L2 cap2)) 25 (0, 0))) := setRow_heap _ _ _ _ _ (0, 0) PG.out
          have PB2 : Hid (Below w.heap.size w (X.setRow g1 (ee n2 (.slice ao2 L2 cap2)))) := below_setRow PB.out (by have := hg1.out; omega) _
          have PZ2 : Hid (g1 + 1 ≤ (X.setRow g1 (ee n2 (.slice ao2 L2 cap2))).heap.size) := by show _ ≤ _; have := PZ.out; simp; exact this
          go_wp2_with (first | (refine wpList_load_row rfl 25 _ rfl gn rfl 25 (ee n2 (.slice ao2 L2 cap2)) (0, 0) _ N1.out Tryd.underlying25 rfl (sizeEd _ _) ?_) | (refine wpList_store_row rfl 25 _ _ rfl g1 (ee n2 (.slice ao2 L2 cap2)) rfl rfl 25 _ PG.out (sizeEd _ _) rfl (oneEd _ rfl) ?_))
          go_roundw
          case rel => exact ⟨k + 1, n2, q2, .slice ao2 L2 cap2, by omega, by go_num, HG2, hq2, PO2, PK, P02, P12, PG2, PB2, PZ2⟩
          case measure => simp [intOf]; omega
        | false =>
          have HN : Hid (allE n hs l = (n, hs, false)) := HF.out rfl
          have qc := copy_spec X n (.slice ao hs.length cap) hs (HS.out.later PB.out) hl
          go_wp2_with (refine wpList_load_row rfl 25 _ rfl w.heap.size rfl 25 (ee n (.slice ao hs.length cap)) (0, 0) _ P0.out Tryd.underlying25 rfl (sizeEd _ _) ?_)
          refine qc.mono ?_
          rintro e w5 ⟨v5, rfl, o5, b5⟩
          have J1 := rowKeep P1.out b5
          have JB : Below w.heap.size w w5 := PB.out.trans (b5.mono PB.out.size)
          have z5 : w.heap.size + 2 ≤ X.heap.size := by have := PZ.out; have := hg1.out; omega
          obtain ⟨ao5, L5, cap5, rfl, _, _⟩ := o5.form
          have HO5 : Hid (Own w5 X.heap.size w5.heap.size 9 (.slice ao5 L5 cap5) (ss hs)) := o5
          have HJ : Hid _ := J1
          have HJB : Hid _ := JB
          clear qc o5 J1 JB b5
          go_wp2_with (refine wpList_store_row rfl 25 _ _ rfl (w.heap.size + 1) (ee n (.slice ao5 L5 cap5)) rfl rfl 25 _ HJ.out (sizeEd _ _) rfl (oneEd _ rfl) ?_)
          refine bodyPost_ret (res_row_tmp rfl _ _ (w.heap.size + 1) 25 (ee n (.slice ao5 L5 cap5)) (0, 0) _ rfl (setRow_heap _ _ _ _ _ (0, 0) HJ.out) Tryd.underlying25 rfl (sizeEd _ _)) rfl ⟨.slice ao5 L5 cap5, by rw [HN.out]; rfl, ?_, below_setRow HJB.out (by omega) _⟩
          rw [HN.out]
          exact (HO5.out.setRow _ (by omega)).mono (by omega) (by simp)
    · have hE := HE.out
      rw [List.drop_eq_nil_of_le (by omega)] at hE
      have HN : Hid (allE n hs l = (m, q, true)) := by
        show _ = _
        unfold allE
        rw [← hE]
        rfl
      have hlt' : ¬ (k : Int) < (l.length : Int) := by omega
      clear hE HE HQ
      go_wp2_with (first | (refine wpList_load_row rfl 25 _ rfl g1 rfl 25 (ee m (.slice aoq Lq capq)) (0, 0) _ HG.out Tryd.underlying25 rfl (sizeEd _ _) ?_) | (refine wpList_store_row rfl 25 _ _ rfl (w.heap.size + 1) (ee m (.slice aoq Lq capq)) rfl rfl 25 _ H1.out (sizeEd _ _) rfl (oneEd _ rfl) ?_))
      refine bodyPost_ret (res_row_tmp rfl _ _ (w.heap.size + 1) 25 (ee m (.slice aoq Lq capq)) (0, 0) _ rfl (setRow_heap _ _ _ _ _ (0, 0) H1.out) Tryd.underlying25 rfl (sizeEd _ _)) rfl ⟨.slice aoq Lq capq, by rw [HN.out]; rfl, ?_, below_setRow HBr.out (by omega) _⟩
      rw [HN.out]
      exact (HO.out.setRow _ (by omega)).mono (by omega) (by simp)

end Go.Proofs.YthbonifpdpknnacDoor.Ed
