/- Chapter 10, the landed code: the first two that fork. -/
import Derived.Test.YtanidhhcedinoaaHfB
import Derived.Test.YtanidhhcedinoaaHe4
namespace Go.Proofs.Ytanidhhcedinoaa.He
open Go.RowKit Go.Proofs.Ytanidhhcedinoaa.Mem Go.Proofs.Ytanidhhcedinoaa.Laws Go.Proofs.Ytanidhhcedinoaa.Bytes Go.Proofs.Ytanidhhcedinoaa.Sha Go.Proofs.Ytanidhhcedinoaa.Tr
set_option linter.unusedVariables false
set_option linter.unusedSimpArgs false

theorem pk_two {x y : Hd} (h : apart x y = true) : pk y x = 2 := by
  unfold apart eq6 at h
  simp only [Bool.and_eq_true, decide_eq_true_eq, Bool.not_eq_true'] at h
  unfold pk eqH
  rw [h.2, Bool.and_false, if_neg (by decide), if_pos h.1]
theorem pk_else {x y : Hd} (h : ¬ apart x y = true) : (pk y x == 2) = false := by
  unfold apart eq6 at h
  rw [beq_eq_false_iff_ne]
  unfold pk eqH
  split
  · decide
  · rename_i hn
    split
    · rename_i he
      exfalso
      apply h
      rw [he] at hn ⊢
      simp only [beq_self_eq_true, Bool.true_and, Bool.not_eq_true] at hn
      rw [hn]
      simp
    · decide

set_option maxRecDepth 1000000 in
set_option maxHeartbeats 8000000 in
theorem fork_impl (w : World) (v : Value) (t : List Hd) (hs : Sh w v t) (hx : t.length ≤ 1000000000000) (hy : ∀ x ∈ t, x.r.size ≤ 1000000000000) :
    Calls Try.prog 14 #[v] w fun e w' => e = .returned (.tuple #[.agg #[.int .i64 (fork t).1.n, .string (fork t).1.r], .agg #[.int .i64 (fork t).2.1.n, .string (fork t).2.1.r], .bool (fork t).2.2]) ∧ Below w.heap.size w w' := by
  obtain ⟨W, hW, R0, R1, bW, yW⟩ : ∃ W, Hid ((w.alloc (.cells #[.int .i64 0, .string ⟨#[]⟩] 27)).alloc (.cells #[.int .i64 0, .string ⟨#[]⟩] 27) = W) ∧ Hid (W.heap[w.heap.size]? = some (.cells (hc hd0) 27 (0, 0))) ∧ Hid (W.heap[w.heap.size + 1]? = some (.cells (hc hd0) 27 (0, 0))) ∧ Hid (Below w.heap.size w W) ∧ w.heap.size + 2 ≤ W.heap.size := ⟨_, rfl, heap_alloc2_old w _ _, heap_alloc2_new w _ _, ((Below.refl _ _).alloc (Nat.le_refl _) _).alloc (by simp) _, by simp⟩
  have HS : Hid (Sh W v t) := hs.later bW.out
  obtain ⟨ao, cap, rfl, hcap⟩ := Sh.form hs
  obtain ⟨F, hF⟩ : ∃ F, fork t = F := ⟨_, rfl⟩
  rw [hF]
  have HFF : Hid (forkF (t.take 0) (t.drop 0) = F) := hF
  have HY : Hid (∀ x ∈ t, x.r.size ≤ 1000000000000) := hy
  clear hs hF hy
  go_enter Try.func14, Try.ntmps14
  go_wp2
  rw [hW.out]
  go_loopw [11] (fun iv wr => ∃ i : Nat, i ≤ t.length ∧ iv = .int .i64 (i : Int) ∧ Hid (forkF (t.take i) (t.drop i) = F) ∧ Hid (Below W.heap.size W wr)) (fun iv _ => t.length - (intOf iv).toNat)
  case atStart => exact ⟨0, Nat.zero_le _, rfl, HFF, Below.refl _ _⟩
  case round =>
    obtain ⟨i, hi, rfl, HI, hB⟩ := hrel
    clear HFF
    obtain ⟨X, hX⟩ : ∃ X, X = wr := ⟨_, rfl⟩
    subst hX
    have zX : W.heap.size ≤ X.heap.size := hB.out.size
    by_cases hlt : i < t.length
    · obtain ⟨x, hx0⟩ : ∃ x, t[i]? = some x := ⟨t[i], by simp [hlt]⟩
      obtain ⟨b, off, cap', he, _, e0, e1⟩ := Sh.at (HS.out.later hB.out) hx0
      simp only [Value.slice.injEq] at he
      obtain ⟨rfl, _, rfl⟩ := he
      have hzx : x.r.size ≤ 1000000000000 := HY.out x (List.mem_of_getElem? hx0)
      obtain ⟨Y, hYW, ry, bY, yY⟩ : ∃ Y, Hid (X.alloc (.cells #[.int .i64 x.n, .string x.r] 27) = Y) ∧ Hid (Y.heap[X.heap.size]? = some (.cells (hc x) 27 (0, 0))) ∧ Hid (Below X.heap.size X Y) ∧ X.heap.size + 1 ≤ Y.heap.size := ⟨_, rfl, heap_alloc_new _ _, (Below.refl _ _).alloc (Nat.le_refl _) _, by simp⟩
      have HST : Hid (_ = F) := (fork_step hx0).symm.trans HI.out
      have hBY : Hid (Below W.heap.size W Y) := hB.out.trans (bY.out.mono hB.out.size)
      clear HI hx0
      go_wp2
      rw [hYW.out]
      go_loopw [20] (fun kv wr => ∃ k : Nat, k ≤ i ∧ kv = .int .i64 (k : Int) ∧ Hid ((t.take k).find? (apart x) = none) ∧ Hid (Below Y.heap.size Y wr)) (fun kv _ => i - (intOf kv).toNat)
      case atStart => exact ⟨0, Nat.zero_le _, rfl, rfl, Below.refl _ _⟩
      case round =>
        obtain ⟨k, hk, rfl, HK, hBk⟩ := hrel
        clear e0 e1
        have zY : Y.heap.size ≤ wr.heap.size := hBk.out.size
        by_cases hkl : k < i
        · obtain ⟨y, hy0⟩ : ∃ x, t[k]? = some x := ⟨t[k]'(by omega), by simp [show k < t.length by omega]⟩
          obtain ⟨b', off', cap', he, _, c0, c1⟩ := Sh.at (HS.out.later (hBY.out.trans (hBk.out.mono hBY.out.size))) hy0
          simp only [Value.slice.injEq, Option.some.injEq, Addr.mk.injEq, and_true] at he
          obtain ⟨⟨rfl, rfl⟩, -, rfl⟩ := he
          have hkt : (k : Int) < (t.length : Int) := by omega
          have hit : (i : Int) < (t.length : Int) := by omega
          have hzy : y.r.size ≤ 1000000000000 := HY.out y (List.mem_of_getElem? hy0)
          have HFS := find_snoc hy0 x HK.out
          obtain ⟨V, hV, rv, bV, yV⟩ : ∃ V, Hid (wr.alloc (.cells #[.int .i64 y.n, .string y.r] 27) = V) ∧ Hid (V.heap[wr.heap.size]? = some (.cells (hc y) 27 (0, 0))) ∧ Hid (Below wr.heap.size wr V) ∧ wr.heap.size + 1 ≤ V.heap.size := ⟨_, rfl, heap_alloc_new _ _, (Below.refl _ _).alloc (Nat.le_refl _) _, by simp⟩
          have bYV : Hid (Below Y.heap.size Y V) := hBk.out.trans (bV.out.mono hBk.out.size)
          have y0 : V.cell? ⟨wr.heap.size, 0, none⟩ = some (.int .i64 y.n) := row_at rv.out 0
          have y1 : V.cell? ⟨wr.heap.size, 1, none⟩ = some (.string y.r) := row_at rv.out 1
          have x0 : V.cell? ⟨X.heap.size, 0, none⟩ = some (.int .i64 x.n) := row_at (rowKeep ry.out bYV.out) 0
          have x1 : V.cell? ⟨X.heap.size, 1, none⟩ = some (.string x.r) := row_at (rowKeep ry.out bYV.out) 1
          have l0 : (wr.alloc (.cells #[.int .i64 y.n, .string y.r] 27)).cell? ⟨X.heap.size, 0, none⟩ = some (.int .i64 x.n) := by rw [hV.out]; exact x0
          have l1 : (wr.alloc (.cells #[.int .i64 y.n, .string y.r] 27)).cell? ⟨X.heap.size, 1, none⟩ = some (.string x.r) := by rw [hV.out]; exact x1
          have q : ∀ X, _ := fun X => pair_impl X y x
          clear hy0 HK
          by_cases ha : apart x y = true
          · have HN : Hid (F = (y, x, true)) := by
              show _ = _
              rw [if_pos ha] at HFS
              have h := HST.out
              rw [find_more (show k + 1 ≤ i by omega) HFS] at h
              exact h.symm
            simp only [pk_two ha] at q
            clear HFS HST ha
            go_wp2_with fail
            rw [hV.out]
            refine (q _).mono ?_
            rintro e W4 ⟨rfl, b4⟩
            have HB4 : Hid (Below w.heap.size w W4) := bW.out.trans ((hBY.out.trans ((bYV.out.trans (b4.mono bYV.out.size)).mono hBY.out.size)).mono bW.out.size)
            have HR0 : Hid (W4.heap[w.heap.size]? = some (.cells (hc hd0) 27 (0, 0))) := rowKeep R0.out (hBY.out.trans ((bYV.out.trans (b4.mono bYV.out.size)).mono hBY.out.size))
            have HR1 : Hid (W4.heap[w.heap.size + 1]? = some (.cells (hc hd0) 27 (0, 0))) := rowKeep R1.out (hBY.out.trans ((bYV.out.trans (b4.mono bYV.out.size)).mono hBY.out.size))
            clear l0 l1 c0 c1 q
            go_wp2_with fail
            refine wp_region_held_drew (S := fun w' => w'.cell? ⟨wr.heap.size, 0, none⟩ = some (.int .i64 y.n) ∧ w'.cell? ⟨wr.heap.size, 1, none⟩ = some (.string y.r) ∧ w'.cell? ⟨X.heap.size, 0, none⟩ = some (.int .i64 x.n) ∧ w'.cell? ⟨X.heap.size, 1, none⟩ = some (.string x.r)) (by kernel_rfl) ⟨keepH y0 (Below.drew b4), keepH y1 (Below.drew b4), keepH x0 (Below.drew b4), keepH x1 (Below.drew b4)⟩ (fun hHeld => ?_)
            (refine wpAnyH_take (i := 0) (v := ?v0x1) rfl (by kernel_rfl) (by kernel_rfl) (by kernel_rfl) (fun _ _ _ h => h) (Or.inl ⟨by rfl, ?hy0x1⟩) (by assumption) ?rest0x1; case hy0x1 => (intro w hSw; (try dsimp only at hSw); go_split_ands; go_simp; (try with_reducible rfl)))
            try simp only [Act.put, List.setIfInBounds_toArray, List.set_cons_zero, List.set_cons_succ, List.getElem_toArray, List.getElem_cons_zero, List.getElem_cons_succ]
            (refine wpAnyH_take (i := 2) (v := ?v2x2) rfl (by kernel_rfl) (by kernel_rfl) (by kernel_rfl) (fun _ _ _ h => h) (Or.inl ⟨by rfl, ?hy2x2⟩) (by assumption) ?rest2x2; case hy2x2 => (intro w hSw; (try dsimp only at hSw); go_split_ands; go_simp; (try with_reducible rfl)))
            try simp only [Act.put, List.setIfInBounds_toArray, List.set_cons_zero, List.set_cons_succ, List.getElem_toArray, List.getElem_cons_zero, List.getElem_cons_succ]
            refine wpAnyH_ready (rs := [1]) (by kernel_rfl) (by simp) ?_
            refine AllReadyH.cons rfl (fun K hK => ?_) AllReadyH.nil
            go_simp
            refine (own_impl _ y hzy).mono ?_
            rintro e w5 ⟨rfl, b5⟩
            refine hK.out _ _ ⟨keepH hHeld.1 b5, keepH hHeld.2.1 b5, keepH hHeld.2.2.1 b5, keepH hHeld.2.2.2 b5⟩ (fun hHeld => ?_)
            clear hK K
            try simp only [Act.put, List.setIfInBounds_toArray, List.set_cons_zero, List.set_cons_succ, List.getElem_toArray, List.getElem_cons_zero, List.getElem_cons_succ]
            refine wpAnyH_ready (rs := [3]) (by kernel_rfl) (by simp) ?_
            refine AllReadyH.cons rfl (fun K hK => ?_) AllReadyH.nil
            go_simp
            refine (own_impl _ x hzx).mono ?_
            rintro e w6 ⟨rfl, b6⟩
            refine hK.out _ _ ⟨keepH hHeld.1 b6, keepH hHeld.2.1 b6, keepH hHeld.2.2.1 b6, keepH hHeld.2.2.2 b6⟩ (fun hHeld => ?_)
            clear hK K
            try simp only [Act.put, List.setIfInBounds_toArray, List.set_cons_zero, List.set_cons_succ, List.getElem_toArray, List.getElem_cons_zero, List.getElem_cons_succ]
            have B5 : Below W4.heap.size W4 w5 := (Below.drew (Below.refl _ _)).trans b5
            have B6 : Below W4.heap.size W4 w6 := B5.trans (b6.mono B5.size)
            have R6 := rowKeep HR0.out B6
            have R7 := rowKeep HR1.out B6
            have B7 : Below w.heap.size w w6 := HB4.out.trans (B6.mono HB4.out.size)
            refine wpAnyH_ready (rs := [4]) (by kernel_rfl) (by simp) ?_
            refine AllReadyH.cons rfl (fun K hK => ?_) AllReadyH.nil
            rw [if_pos (by rfl)]
            refine wp_store_row 27 _ _ rfl w.heap.size (hc y) rfl rfl 27 _ R6 (sizeH y) rfl (oneH y) ?_
            refine hK.out _ _ ⟨cell_row (by show wr.heap.size ≠ _; omega) hHeld.1, cell_row (by show wr.heap.size ≠ _; omega) hHeld.2.1, cell_row (by show X.heap.size ≠ _; omega) hHeld.2.2.1, cell_row (by show X.heap.size ≠ _; omega) hHeld.2.2.2⟩ (fun hHeld => ?_)
            clear hK K
            try simp only [Act.put, List.setIfInBounds_toArray, List.set_cons_zero, List.set_cons_succ, List.getElem_toArray, List.getElem_cons_zero, List.getElem_cons_succ]
            refine wpAnyH_ready (rs := [5]) (by kernel_rfl) (by simp) ?_
            refine AllReadyH.cons rfl (fun K hK => ?_) AllReadyH.nil
            rw [if_pos (by rfl)]
            refine wp_store_row 27 _ _ rfl (w.heap.size + 1) (hc x) rfl rfl 27 _ ((setRow_other _ _ _ _ (by omega)).trans R7) (sizeH x) rfl (oneH x) ?_
            refine hK.out _ _ ⟨cell_row (by show wr.heap.size ≠ _; omega) hHeld.1, cell_row (by show wr.heap.size ≠ _; omega) hHeld.2.1, cell_row (by show X.heap.size ≠ _; omega) hHeld.2.2.1, cell_row (by show X.heap.size ≠ _; omega) hHeld.2.2.2⟩ (fun hHeld => ?_)
            clear hK K
            try simp only [Act.put, List.setIfInBounds_toArray, List.set_cons_zero, List.set_cons_succ, List.getElem_toArray, List.getElem_cons_zero, List.getElem_cons_succ]
            (refine wpAnyH_take (i := 6) (v := ?v6x3) rfl (by kernel_rfl) (by kernel_rfl) (by kernel_rfl) (fun _ _ _ h => h) (Or.inl ⟨by rfl, ?hy6x3⟩) (by assumption) ?rest6x3; case hy6x3 => (intro w hSw; (try dsimp only at hSw); go_split_ands; go_simp; (try with_reducible rfl)))
            try simp only [Act.put, List.setIfInBounds_toArray, List.set_cons_zero, List.set_cons_succ, List.getElem_toArray, List.getElem_cons_zero, List.getElem_cons_succ]
            refine wpAnyH_done (by kernel_rfl) ?_ _
            clear hHeld
            go_wp2
            exact bodyPost_ret (res_rows2 rfl _ _ w.heap.size (w.heap.size + 1) 27 (hc y) (hc x) (0, 0) _ rfl rfl ((setRow_other _ _ _ _ (by omega)).trans (setRow_heap _ _ _ _ _ (0, 0) R6)) (setRow_heap _ _ _ _ _ (0, 0) ((setRow_other _ _ _ _ (by omega)).trans R7)) Try.underlying27 rfl (sizeH y) (sizeH x)) rfl ⟨by rw [HN.out]; rfl, below_setRow (below_setRow B7 (by omega) _) (by omega) _⟩
          · have HN : Hid ((t.take (k + 1)).find? (apart x) = none) := by
              show _ = _
              rw [HFS, if_neg ha]
            have pn := pk_else ha
            obtain ⟨P, hP⟩ : ∃ P, pk y x = P := ⟨_, rfl⟩
            rw [hP] at pn
            simp only [hP] at q
            clear HFS ha hP
            go_wp2_with fail
            rw [hV.out]
            refine (q _).mono ?_
            rintro e W4 ⟨rfl, b4⟩
            clear l0 l1 c0 c1 q y0 y1 x0 x1
            go_wp2
            go_roundw
            case rel => exact ⟨k + 1, by omega, by go_num, HN, bYV.out.trans (b4.mono bYV.out.size)⟩
            case measure => simp [intOf]; omega
        · have HN : Hid (forkF (t.take (i + 1)) (t.drop (i + 1)) = F) := by
            show _ = _
            have h := HST.out
            have hk2 : k = i := by omega
            subst hk2
            rw [HK.out] at h
            exact h
          clear HK HST
          go_wp2
          go_roundw
          case rel => exact ⟨i + 1, by omega, by go_num, HN, hBY.out.trans (hBk.out.mono hBY.out.size)⟩
          case measure => simp [intOf]; omega
    · have HN : Hid (F = (hd0, hd0, false)) := by
        show _ = _
        rw [← HI.out, List.drop_eq_nil_of_le (by omega)]
        rfl
      have HR0 : Hid (X.heap[w.heap.size]? = some (.cells (hc hd0) 27 (0, 0))) := rowKeep R0.out hB.out
      have HR1 : Hid (X.heap[w.heap.size + 1]? = some (.cells (hc hd0) 27 (0, 0))) := rowKeep R1.out hB.out
      clear HI
      go_wp2_with (first | (refine wpList_store_row rfl 27 _ _ rfl w.heap.size (hc hd0) rfl rfl 27 _ HR0.out (sizeH hd0) rfl (oneH hd0) ?_) | (refine wpList_store_row rfl 27 _ _ rfl (w.heap.size + 1) (hc hd0) rfl rfl 27 _ ((setRow_other _ _ _ _ (by omega)).trans HR1.out) (sizeH hd0) rfl (oneH hd0) ?_))
      exact bodyPost_ret (res_rows2 rfl _ _ w.heap.size (w.heap.size + 1) 27 (hc hd0) (hc hd0) (0, 0) _ rfl rfl ((setRow_other _ _ _ _ (by omega)).trans (setRow_heap _ _ _ _ _ (0, 0) HR0.out)) (setRow_heap _ _ _ _ _ (0, 0) ((setRow_other _ _ _ _ (by omega)).trans HR1.out)) Try.underlying27 rfl (sizeH hd0) (sizeH hd0)) rfl ⟨by rw [HN.out]; rfl, below_setRow (below_setRow (bW.out.trans (hB.out.mono bW.out.size)) (by omega) _) (by omega) _⟩

end Go.Proofs.Ytanidhhcedinoaa.He
