/- Chapter 7: drawn edges. -/
import Derived.Test.YthbonifpdpknnaaDoorTrD
import Derived.Test.YthbonifpdpknnaaDoorEdO
namespace Go.Proofs.YthbonifpdpknnaaDoor.Ed
open Go.RowKit Go.Proofs.YthbonifpdpknnaaDoor.Mem Go.Proofs.YthbonifpdpknnaaDoor.Laws Go.Proofs.YthbonifpdpknnaaDoor.Bytes Go.Proofs.YthbonifpdpknnaaDoor.Sha Go.Proofs.YthbonifpdpknnaaDoor.Tr Go.Proofs.YthbonifpdpknnaaDoor.Draw
set_option linter.unusedVariables false
set_option linter.unusedSimpArgs false

/-- an edge that was drawn, right or not -/
def Dr (n : Int) (hs : List ByteArray) : Prop := (-1 ≤ n ∧ n ≤ 201) ∧ hs.length ≤ 9 ∧ ∀ s ∈ hs, s.size ≤ 32

set_option maxRecDepth 1000000 in
set_option maxHeartbeats 8000000 in
theorem any7_any (W0 w : World) (g : Nat) (vb : Value) (xs : List Int) (hs : Sl W0 vb (bs xs)) (hby : Byt xs) (hx : xs.length ≤ 140737488355328) (hB : Below W0.heap.size W0 w) (hg : W0.heap.size ≤ g) (hc : Cur w g vb xs.length) :
    Calls Tryd.prog 48 #[.pointer (some ⟨g, 0, none⟩)] w fun e w' => ∃ (n : Int) (v' : Value) (hs : List ByteArray), e = .returned (.agg #[.int .i64 n, v']) ∧ Dr n hs ∧ Own w' w.heap.size w'.heap.size 9 v' (ss hs) ∧ Drawn W0 w g vb xs w' := by
  obtain ⟨i0, hi, hz0, hz1, hz2⟩ := info_parts info9t
  have hgw := hc.lt
  obtain ⟨W, hW⟩ : ∃ W, w.alloc (.cells #[.int .i64 0, .slice none 0 0] 34) = W := ⟨_, rfl⟩
  have bW : Below w.heap.size w W := by rw [← hW]; exact (Below.refl _ _).alloc (Nat.le_refl _) _
  have zW : w.heap.size + 1 ≤ W.heap.size := by rw [← hW]; simp
  have rW : W.heap[w.heap.size]? = some (.cells (ee 0 (.slice none 0 0)) 34 (0, 0)) := by rw [← hW]; exact heap_alloc_new w _
  have dW : Drawn W0 w g vb xs W := (Drawn.refl hB hc).on hg hgw bW
  have q1 := list_any W0 W g vb xs hs hby hx dW.below hg dW.cur
  have HW : Hid _ := hW
  clear hW
  go_enter Tryd.func48, Tryd.ntmps48
  go_wp2_with fail
  rw [HW.out]
  refine q1.mono ?_
  rintro e w2 ⟨v2, l, rfl, hl8, hlz, o2, d2⟩
  have R2 : w2.heap[w.heap.size]? = some (.cells (ee 0 (.slice none 0 0)) 34 (0, 0)) := (d2.apart.block w.heap.size (by omega) (by omega)).trans rW
  have D2 := dW.and d2
  have s2 := d2.apart.size
  have q2 := of_spec w2 v2 l o2.sl (by omega) (fun s h => by have := hlz s h; omega)
  rw [show edgeOf l = (l.length, edge l) by unfold edgeOf; rw [if_pos (by omega)]] at q2
  have e8 : (edge l).length ≤ 8 := by rw [edge_len]; exact popc_le ⟨l.length, by omega⟩
  have e32 := edge_sizes l
  clear q1 HW dW bW rW d2 o2
  go_wp2_with fail
  refine q2.mono ?_
  rintro e w3 ⟨v3, rfl, o3, b3⟩
  obtain ⟨E, hE⟩ : ∃ E, edge l = E := ⟨_, rfl⟩
  obtain ⟨n, hn⟩ : ∃ n : Int, (l.length : Int) = n := ⟨_, rfl⟩
  simp only [hE] at o3 e8 e32
  simp only [hn]
  have hn0 : 0 ≤ n ∧ n ≤ 8 := by omega
  clear hE hn hlz hl8 q2
  obtain ⟨ao3, L3, cap3, rfl, hL3, hM3⟩ := Mem.Own.form o3
  rw [ss_len] at hL3 hM3
  have R3 := rowKeep R2 b3
  have s3 := b3.size
  have D3 := D2.on hg hgw (b3.mono (by omega))
  obtain ⟨w4, HW4, b4, y4, r4⟩ : ∃ X, Hid (w3.alloc (.cells #[.int .i64 n, .slice ao3 L3 cap3] 34) = X) ∧ Below w3.heap.size w3 X ∧ w3.heap.size + 1 ≤ X.heap.size ∧ X.heap[w3.heap.size]? = some (.cells (ee n (.slice ao3 L3 cap3)) 34 (0, 0)) := ⟨_, rfl, (Below.refl _ _).alloc (Nat.le_refl _) _, by simp, heap_alloc_new _ _⟩
  obtain ⟨ge, hge⟩ : ∃ ge, w3.heap.size = ge := ⟨_, rfl⟩
  have hgw3 : w.heap.size + 1 ≤ ge := by omega
  have R4 := rowKeep R3 b4
  have O4 : Own w4 (w.heap.size + 1) ge 9 (.slice ao3 L3 cap3) (ss E) := (o3.later b4 (Nat.le_refl _)).mono (by omega) (by omega)
  have D4 := D3.on hg hgw (b4.mono (by omega))
  have q4 := below_any W0 w4 g vb xs 10 (by omega) (by omega) hs hby hx D4.below hg D4.cur
  rw [hge] at r4
  have y4' : ge + 1 ≤ w4.heap.size := by omega
  have HGE : Hid (w3.heap.size = ge) := hge
  clear hge o3 b3 D2 D3 R2 R3 b4 y4
  go_wp2_with fail
  rw [HW4.out]
  refine q4.mono ?_
  rintro e w5 ⟨x, rfl, x0, x1, d5⟩
  have s5 := d5.apart.size
  have r5 : w5.heap[ge]? = some (.cells (ee n (.slice ao3 L3 cap3)) 34 (0, 0)) := (d5.apart.block ge (by omega) (by omega)).trans r4
  have R5 : w5.heap[w.heap.size]? = some (.cells (ee 0 (.slice none 0 0)) 34 (0, 0)) := (d5.apart.block w.heap.size (by omega) (by omega)).trans R4
  have O5 : Own w5 (w.heap.size + 1) ge 9 (.slice ao3 L3 cap3) (ss E) := Own.drawn O4 d5 (.inl (by omega)) (by omega)
  have D5 := D4.and d5
  have HR : Hid (w5.heap[ge]? = some (.cells (ee n (.slice ao3 L3 cap3)) 34 (0, 0))) := r5
  have HR0 : Hid (w5.heap[w.heap.size]? = some (.cells (ee 0 (.slice none 0 0)) 34 (0, 0))) := R5
  have HO : Hid (Own w5 (w.heap.size + 1) ge 9 (.slice ao3 L3 cap3) (ss E)) := O5
  have HD : Hid (Drawn W0 w g vb xs w5) := D5
  have H32 : Hid (∀ s ∈ E, s.size = 32) := e32
  simp only [HGE.out]
  clear q4 HW4 r4 R4 O4 D4 d5 r5 R5 O5 D5 HGE e32
  have c0 : w5.cell? ⟨ge, 0, none⟩ = some (.int .i64 n) := row_at HR.out 0
  have c1 : w5.cell? ⟨ge, 1, none⟩ = some (.slice ao3 L3 cap3) := row_at HR.out 1
  have f0 : w5.frozen? ⟨ge, 0, none⟩ = false := row_free HR.out 0
  have f1 : w5.frozen? ⟨ge, 1, none⟩ = false := row_free HR.out 1
  by_cases x00 : x = 0
  · subst x00
    have dA : Drawn W0 w g vb xs (w5.alloc (.cells #[.int .i64 (-1), .int .i64 0, .int .i64 1, .int .i64 201] 3)) := HD.out.on hg hgw ((Below.refl _ _).alloc (by omega) _)
    have q := int_any W0 (w5.alloc (.cells #[.int .i64 (-1), .int .i64 0, .int .i64 1, .int .i64 201] 3)) g vb xs w5.heap.size [-1, 0, 1, 201] (lit_block _ _ _) (by omega) (by simp) (by simp) hs hby hx dA.below hg dA.cur
    have zA : (w5.alloc (.cells #[.int .i64 (-1), .int .i64 0, .int .i64 1, .int .i64 201] 3)).heap.size = w5.heap.size + 1 := by simp
    have rA : (w5.alloc (.cells #[.int .i64 (-1), .int .i64 0, .int .i64 1, .int .i64 201] 3)).heap[ge]? = some (.cells (ee n (.slice ao3 L3 cap3)) 34 (0, 0)) := (heap_alloc_old w5 _ (by omega)).trans HR.out
    have rA0 : (w5.alloc (.cells #[.int .i64 (-1), .int .i64 0, .int .i64 1, .int .i64 201] 3)).heap[w.heap.size]? = some (.cells (ee 0 (.slice none 0 0)) 34 (0, 0)) := (heap_alloc_old w5 _ (by omega)).trans HR0.out
    have oA : Own (w5.alloc (.cells #[.int .i64 (-1), .int .i64 0, .int .i64 1, .int .i64 201] 3)) (w.heap.size + 1) ge 9 (.slice ao3 L3 cap3) (ss E) := HO.out.later ((Below.refl _ _).alloc (Nat.le_refl _) _) (by omega)
    go_wp2_with fail
    refine q.mono ?_
    rintro e w6 ⟨y, rfl, ym, d6⟩
    have s6 := d6.apart.size
    rw [zA] at s6
    have hy : -1 ≤ y ∧ y ≤ 201 := by simp only [List.mem_cons, List.not_mem_nil, or_false] at ym; omega
    have r6 : w6.heap[ge]? = some (.cells (ee n (.slice ao3 L3 cap3)) 34 (0, 0)) := (d6.apart.block ge (by rw [zA]; omega) (by omega)).trans rA
    have k0 : w6.cell? ⟨ge, 0, none⟩ = some (.int .i64 n) := row_at r6 0
    have fk : w6.frozen? ⟨ge, 0, none⟩ = false := row_free r6 0
    have HR6 : Hid ((w6.setCell ⟨ge, 0, none⟩ (.int .i64 y)).heap[ge]? = some (.cells (ee y (.slice ao3 L3 cap3)) 34 (0, 0))) := row_set r6 0 _
    have HR06 : Hid ((w6.setCell ⟨ge, 0, none⟩ (.int .i64 y)).heap[w.heap.size]? = some (.cells (ee 0 (.slice none 0 0)) 34 (0, 0))) := (Below.heap_setCell _ _ _ _ (by show w.heap.size ≠ ge; omega)).trans ((d6.apart.block w.heap.size (by rw [zA]; omega) (by omega)).trans rA0)
    have HO6 : Hid (Own (w6.setCell ⟨ge, 0, none⟩ (.int .i64 y)) (w.heap.size + 1) ge 9 (.slice ao3 L3 cap3) (ss E)) := Own.setCell (Own.drawn oA d6 (.inl (by omega)) (by rw [zA]; omega)) _ (by omega)
    have HD6 : Hid (Drawn W0 w g vb xs (w6.setCell ⟨ge, 0, none⟩ (.int .i64 y))) := (dA.and d6).on hg hgw ((Below.refl _ _).setCell (p := ⟨ge, 0, none⟩) (by show _ ≤ ge; omega) _)
    have HY : Hid (ge + 1 ≤ (w6.setCell ⟨ge, 0, none⟩ (.int .i64 y)).heap.size) := by show _ ≤ _; simp [World.setCell]; omega
    clear q rA rA0 oA d6 r6 dA HR HR0 HO HD c0 c1 f0 f1 ym
    have hY := HY.out
    go_wp2_with (first | (refine wpList_load_row rfl 34 _ rfl ge rfl 34 (ee y (.slice ao3 L3 cap3)) (0, 0) _ HR6.out Tryd.underlying34 rfl (sizeEd _ _) ?_) | (refine wpList_store_row rfl 34 _ _ rfl w.heap.size (ee y (.slice ao3 L3 cap3)) rfl rfl 34 _ HR06.out (sizeEd _ _) rfl (oneEd _ rfl) ?_))
    refine bodyPost_ret (v := .agg (ee y (.slice ao3 L3 cap3))) (results_cell_row rfl _ _ w.heap.size 34 _ (0, 0) _ rfl (setRow_heap _ _ _ _ _ (0, 0) HR06.out) Tryd.underlying34 rfl (sizeEd _ _)) rfl ⟨y, .slice ao3 L3 cap3, E, rfl, ⟨by omega, by omega, fun s hs => by rw [H32.out s hs]; exact Nat.le_refl _⟩, ?_, Drawn.on HD6.out hg hgw (below_setRow (Below.refl _ _) (Nat.le_refl _) _)⟩
    exact (Own.setRow HO6.out _ (by omega)).mono (by omega) (by simp; omega)
  have xa : (x == 0) = false := by rw [beq_eq_false_iff_ne]; exact x00
  by_cases x11 : x = 1
  · subst x11
    clear x00 xa
    have HR5 : Hid _ := HR.out
    have HZ5 : Hid _ := HR0.out
    have HO5 : Hid _ := HO.out
    have HD5 : Hid _ := HD.out
    have sY5 : ge + 1 ≤ w5.heap.size := by omega
    have k1_5 := c1
    have cA : (ss E).length + 1 ≤ maxLen := by rw [ss_len]; unfold maxLen; omega
    have cB : ((ss E).length + 1) * 16 ≤ 140737488355328 := by rw [ss_len]; omega
    clear HR HR0 HO HD c0 c1 f0 f1
    go_wp2_with fail
    refine wp_region_held_drew (S := fun _ => True) (by kernel_rfl) trivial (fun hHeld => ?_)
    (refine wpAnyH_take (i := 0) (v := ?v0x1) rfl (by kernel_rfl) (by kernel_rfl) (by kernel_rfl) (fun _ _ _ h => h) (Or.inl ⟨by rfl, ?hy0x1⟩) (by assumption) ?rest0x1; case hy0x1 => (intro w hSw; (try dsimp only at hSw); go_split_ands; go_simp; (try with_reducible rfl)))
    try simp only [Act.put, List.setIfInBounds_toArray, List.set_cons_zero, List.set_cons_succ, List.getElem_toArray, List.getElem_cons_zero, List.getElem_cons_succ]
    refine wpAnyH_ready (rs := [1, 2]) (by kernel_rfl) (by simp) ?_
    refine AllReadyH.cons rfl (fun K hK => ?_) (AllReadyH.cons rfl (fun K hK => ?_) AllReadyH.nil)
    · go_simp
      refine hK.out _ _ trivial (fun hHeld => ?_)
      clear hK K
      try simp only [Act.put, List.setIfInBounds_toArray, List.set_cons_zero, List.set_cons_succ, List.getElem_toArray, List.getElem_cons_zero, List.getElem_cons_succ]
      refine wpAnyH_ready (rs := [2]) (by kernel_rfl) (by simp) ?_
      refine AllReadyH.cons rfl (fun K hK => ?_) AllReadyH.nil
      go_simp
      refine hK.out _ _ trivial (fun hHeld => ?_)
      clear hK K
      try simp only [Act.put, List.setIfInBounds_toArray, List.set_cons_zero, List.set_cons_succ, List.getElem_toArray, List.getElem_cons_zero, List.getElem_cons_succ]
      obtain ⟨u6, HU6, b6, SB⟩ : ∃ X, Hid ((w5.alloc (.cells #[.int .u8 1] 5)).drew = X) ∧ Below w5.heap.size w5 X ∧ Hid (Sl X (.slice (some ⟨w5.heap.size, 0, none⟩) 1 1) (bs [1])) := ⟨_, rfl, (Below.drew ((Below.refl _ _).alloc (Nat.le_refl _) _)), (oneB w5 w5.heap.size 1 (Nat.le_refl _)).sl⟩
      rw [HU6.out]
      have HR6 : Hid (u6.heap[ge]? = some (.cells (ee n (.slice ao3 L3 cap3)) 34 (0, 0))) := rowKeep HR5.out b6
      have HZ6 : Hid (u6.heap[w.heap.size]? = some (.cells (ee 0 (.slice none 0 0)) 34 (0, 0))) := rowKeep HZ5.out b6
      have HO6 : Hid (Own u6 (w.heap.size + 1) ge 9 (.slice ao3 L3 cap3) (ss E)) := Own.later HO5.out b6 (by omega)
      have HD6 : Hid (Drawn W0 w g vb xs u6) := HD5.out.on hg hgw (b6.mono (by omega))
      have sY6 : ge + 1 ≤ u6.heap.size := Nat.le_trans sY5 b6.size
      have k1_6 : u6.cell? ⟨ge, 1, none⟩ = some (.slice ao3 L3 cap3) := row_at HR6.out 1
      clear k1_5
      refine wpAnyH_ready (rs := [3]) (by kernel_rfl) (by simp) ?_
      refine AllReadyH.cons rfl (fun K hK => ?_) AllReadyH.nil
      go_simp
      refine (digest_spec u6 _ [1] SB.out (by intro x hx; simp at hx; omega) (by simp)).mono ?_
      rintro e u7 ⟨rfl, b7⟩
      refine hK.out _ _ trivial (fun hHeld => ?_)
      clear hK K
      try simp only [Act.put, List.setIfInBounds_toArray, List.set_cons_zero, List.set_cons_succ, List.getElem_toArray, List.getElem_cons_zero, List.getElem_cons_succ]
      have hDz : (Plain.txt (digest [1])).size = 32 := by rw [txt_size, digest_len]
      obtain ⟨dg, hdg⟩ : ∃ dg, Plain.txt (digest [1]) = dg := ⟨_, rfl⟩
      rw [hdg] at hDz ⊢
      clear hdg
      have HR7 : Hid (u7.heap[ge]? = some (.cells (ee n (.slice ao3 L3 cap3)) 34 (0, 0))) := rowKeep HR6.out b7
      have HZ7 : Hid (u7.heap[w.heap.size]? = some (.cells (ee 0 (.slice none 0 0)) 34 (0, 0))) := rowKeep HZ6.out b7
      have HO7 : Hid (Own u7 (w.heap.size + 1) ge 9 (.slice ao3 L3 cap3) (ss E)) := Own.later HO6.out b7 (by omega)
      have HD7 : Hid (Drawn W0 w g vb xs u7) := HD6.out.on hg hgw (b7.mono (by omega))
      have sY7 : ge + 1 ≤ u7.heap.size := Nat.le_trans sY6 b7.size
      have k1_7 : u7.cell? ⟨ge, 1, none⟩ = some (.slice ao3 L3 cap3) := row_at HR7.out 1
      clear k1_6
      refine wpAnyH_ready (rs := [4]) (by kernel_rfl) (by simp) ?_
      refine AllReadyH.cons rfl (fun K hK => ?_) AllReadyH.nil
      go_simp
      refine hK.out _ _ trivial (fun hHeld => ?_)
      clear hK K
      try simp only [Act.put, List.setIfInBounds_toArray, List.set_cons_zero, List.set_cons_succ, List.getElem_toArray, List.getElem_cons_zero, List.getElem_cons_succ]
      obtain ⟨u8, HU8, b8, SS⟩ : ∃ X, Hid ((u7.alloc (.cells #[.string dg] 9)) = X) ∧ Below u7.heap.size u7 X ∧ Hid (Sl X (.slice (some ⟨u7.heap.size, 0, none⟩) 1 1) [.string dg]) := ⟨_, rfl, (Below.refl _ _).alloc (Nat.le_refl _) _, Laws.Sl.one _ _ _⟩
      rw [HU8.out]
      have HR8 : Hid (u8.heap[ge]? = some (.cells (ee n (.slice ao3 L3 cap3)) 34 (0, 0))) := rowKeep HR7.out b8
      have HZ8 : Hid (u8.heap[w.heap.size]? = some (.cells (ee 0 (.slice none 0 0)) 34 (0, 0))) := rowKeep HZ7.out b8
      have HO8 : Hid (Own u8 (w.heap.size + 1) ge 9 (.slice ao3 L3 cap3) (ss E)) := Own.later HO7.out b8 (by omega)
      have HD8 : Hid (Drawn W0 w g vb xs u8) := HD7.out.on hg hgw (b8.mono (by omega))
      have sY8 : ge + 1 ≤ u8.heap.size := Nat.le_trans sY7 b8.size
      have k1_8 : u8.cell? ⟨ge, 1, none⟩ = some (.slice ao3 L3 cap3) := row_at HR8.out 1
      clear k1_7
      have oX : Own u8 (w.heap.size + 1) u8.heap.size 9 (.slice ao3 L3 cap3) (ss E) := HO8.out.mono (Nat.le_refl _) (by omega)
      refine wpAnyH_ready (rs := [5]) (by kernel_rfl) (by simp) ?_
      refine AllReadyH.cons rfl (fun K hK => ?_) AllReadyH.nil
      refine step_appG (by rfl) (.tmp 18) (.tmp 21) 24 (by rfl) 9 i0 (.string ⟨#[]⟩) 16 Tryd.underlying24 hi hz0 hz1 hz2 rfl (w.heap.size + 1) _ _ (by rfl) oX _ (by rfl) [.string dg] SS.out (oneT _) cA cB (by omega) ?_
      intro v7 w7 o7 b7 g7
      refine hK.out _ _ trivial (fun hHeld => ?_)
      clear hK K
      try simp only [Act.put, List.setIfInBounds_toArray, List.set_cons_zero, List.set_cons_succ, List.getElem_toArray, List.getElem_cons_zero, List.getElem_cons_succ]
      have o7 : Own w7 (w.heap.size + 1) w7.heap.size 9 v7 (ss (E ++ [dg])) := by rw [ss_app]; exact o7
      have hne : some ge ≠ (Value.slice ao3 L3 cap3).ownBlock := by
        intro h
        have := (Own.owns HO8.out h.symm).2
        omega
      have r7 : w7.heap[ge]? = some (.cells (ee n (.slice ao3 L3 cap3)) 34 (0, 0)) := (g7.block ge (by omega) hne).trans HR8.out
      have z7 : w7.heap[w.heap.size]? = some (.cells (ee 0 (.slice none 0 0)) 34 (0, 0)) := (b7.block w.heap.size (by omega)).trans HZ8.out
      have s7 := g7.size
      have D7 : Drawn W0 w g vb xs w7 := HD8.out.on hg hgw (b7.mono (by omega))
      have h7n : ∀ gg, v7.ownBlock = some gg → gg ≠ ge := by
        intro gg hgg he
        subst he
        obtain ⟨⟨_, hh⟩, _⟩ := o7
        rcases hh with ⟨rfl, _⟩ | ⟨g', cp, cur, rfl, _, hcur, _⟩
        · cases hgg
        · simp only [Value.ownBlock, Option.some.injEq] at hgg
          rw [hgg, r7] at hcur
          have := Option.some.inj hcur
          simp only [Obj.cells.injEq] at this
          exact absurd this.2.1 (by decide)
      obtain ⟨ao7, L7, cap7, rfl, _, _⟩ := Mem.Own.form o7
      have k7 : w7.cell? ⟨ge, 1, none⟩ = some (.slice ao3 L3 cap3) := row_at r7 1
      have f7 : w7.frozen? ⟨ge, 1, none⟩ = false := row_free r7 1
      (refine wpAnyH_take (i := 6) (v := ?v6x2) rfl (by kernel_rfl) (by kernel_rfl) (by kernel_rfl) (fun _ _ _ h => h) (Or.inl ⟨by rfl, ?hy6x2⟩) (by assumption) ?rest6x2; case hy6x2 => (intro w hSw; (try dsimp only at hSw); go_split_ands; go_simp; (try with_reducible rfl)))
      try simp only [Act.put, List.setIfInBounds_toArray, List.set_cons_zero, List.set_cons_succ, List.getElem_toArray, List.getElem_cons_zero, List.getElem_cons_succ]
      refine wpAnyH_ready (rs := [7]) (by kernel_rfl) (by simp) ?_
      refine AllReadyH.cons rfl (fun K hK => ?_) AllReadyH.nil
      go_simp
      refine hK.out _ _ trivial (fun hHeld => ?_)
      clear hK K
      try simp only [Act.put, List.setIfInBounds_toArray, List.set_cons_zero, List.set_cons_succ, List.getElem_toArray, List.getElem_cons_zero, List.getElem_cons_succ]
      refine wpAnyH_done (by kernel_rfl) ?_ _
      clear hHeld
      have HR9 : Hid ((w7.setCell ⟨ge, 1, none⟩ (.slice ao7 L7 cap7)).heap[ge]? = some (.cells (ee n (.slice ao7 L7 cap7)) 34 (0, 0))) := row_set r7 1 _
      have HR09 : Hid ((w7.setCell ⟨ge, 1, none⟩ (.slice ao7 L7 cap7)).heap[w.heap.size]? = some (.cells (ee 0 (.slice none 0 0)) 34 (0, 0))) := (Below.heap_setCell _ _ _ _ (by show w.heap.size ≠ ge; omega)).trans z7
      have HO9 : Hid (Own (w7.setCell ⟨ge, 1, none⟩ (.slice ao7 L7 cap7)) (w.heap.size + 1) w7.heap.size 9 (.slice ao7 L7 cap7) (ss (E ++ [dg]))) := Own.keepO o7 (fun gg hgg => Below.heap_setCell _ _ _ _ (h7n gg hgg))
      have HD9 : Hid (Drawn W0 w g vb xs (w7.setCell ⟨ge, 1, none⟩ (.slice ao7 L7 cap7))) := D7.on hg hgw ((Below.refl _ _).setCell (p := ⟨ge, 1, none⟩) (by show _ ≤ ge; omega) _)
      have HDr : Hid (Dr n (E ++ [dg])) := ⟨by omega, by rw [List.length_append]; simp; omega, fun s hs => by
        rcases List.mem_append.1 hs with hs | hs
        · rw [H32.out s hs]; exact Nat.le_refl _
        · simp at hs; rw [hs, hDz]; exact Nat.le_refl _⟩
      have hY : w7.heap.size ≤ (w7.setCell ⟨ge, 1, none⟩ (.slice ao7 L7 cap7)).heap.size := by simp [World.setCell]
      clear r7 z7 D7 h7n o7 b7 g7 oX k7 f7 hDz HR8 HZ8 HO8 HD8 k1_8 SS SB
      obtain ⟨X, hX⟩ : ∃ X, (w7.setCell ⟨ge, 1, none⟩ (.slice ao7 L7 cap7)) = X := ⟨_, rfl⟩
      rw [hX] at HR9 HR09 HO9 HD9 hY ⊢
      clear hX
      go_wp2_with (first | (refine wpList_load_row rfl 34 _ rfl ge rfl 34 (ee n (.slice ao7 L7 cap7)) (0, 0) _ HR9.out Tryd.underlying34 rfl (sizeEd _ _) ?_) | (refine wpList_store_row rfl 34 _ _ rfl w.heap.size (ee n (.slice ao7 L7 cap7)) rfl rfl 34 _ HR09.out (sizeEd _ _) rfl (oneEd _ rfl) ?_))
      refine bodyPost_ret (v := .agg (ee n (.slice ao7 L7 cap7))) (results_cell_row rfl _ _ w.heap.size 34 _ (0, 0) _ rfl (setRow_heap _ _ _ _ _ (0, 0) HR09.out) Tryd.underlying34 rfl (sizeEd _ _)) rfl ⟨n, .slice ao7 L7 cap7, E ++ [dg], rfl, HDr.out, ?_, Drawn.on HD9.out hg hgw (below_setRow (Below.refl _ _) (Nat.le_refl _) _)⟩
      exact (Own.setRow HO9.out _ (by omega)).mono (by omega) (by simp; omega)
    · go_simp
      refine hK.out _ _ trivial (fun hHeld => ?_)
      clear hK K
      try simp only [Act.put, List.setIfInBounds_toArray, List.set_cons_zero, List.set_cons_succ, List.getElem_toArray, List.getElem_cons_zero, List.getElem_cons_succ]
      obtain ⟨u6, HU6, b6, SB⟩ : ∃ X, Hid ((w5.alloc (.cells #[.int .u8 1] 5)).drew = X) ∧ Below w5.heap.size w5 X ∧ Hid (Sl X (.slice (some ⟨w5.heap.size, 0, none⟩) 1 1) (bs [1])) := ⟨_, rfl, (Below.drew ((Below.refl _ _).alloc (Nat.le_refl _) _)), (oneB w5 w5.heap.size 1 (Nat.le_refl _)).sl⟩
      rw [HU6.out]
      have HR6 : Hid (u6.heap[ge]? = some (.cells (ee n (.slice ao3 L3 cap3)) 34 (0, 0))) := rowKeep HR5.out b6
      have HZ6 : Hid (u6.heap[w.heap.size]? = some (.cells (ee 0 (.slice none 0 0)) 34 (0, 0))) := rowKeep HZ5.out b6
      have HO6 : Hid (Own u6 (w.heap.size + 1) ge 9 (.slice ao3 L3 cap3) (ss E)) := Own.later HO5.out b6 (by omega)
      have HD6 : Hid (Drawn W0 w g vb xs u6) := HD5.out.on hg hgw (b6.mono (by omega))
      have sY6 : ge + 1 ≤ u6.heap.size := Nat.le_trans sY5 b6.size
      have k1_6 : u6.cell? ⟨ge, 1, none⟩ = some (.slice ao3 L3 cap3) := row_at HR6.out 1
      clear k1_5
      refine wpAnyH_ready (rs := [1, 3]) (by kernel_rfl) (by simp) ?_
      refine AllReadyH.cons rfl (fun K hK => ?_) (AllReadyH.cons rfl (fun K hK => ?_) AllReadyH.nil)
      · go_simp
        refine hK.out _ _ trivial (fun hHeld => ?_)
        clear hK K
        try simp only [Act.put, List.setIfInBounds_toArray, List.set_cons_zero, List.set_cons_succ, List.getElem_toArray, List.getElem_cons_zero, List.getElem_cons_succ]
        refine wpAnyH_ready (rs := [3]) (by kernel_rfl) (by simp) ?_
        refine AllReadyH.cons rfl (fun K hK => ?_) AllReadyH.nil
        go_simp
        refine (digest_spec u6 _ [1] SB.out (by intro x hx; simp at hx; omega) (by simp)).mono ?_
        rintro e u7 ⟨rfl, b7⟩
        refine hK.out _ _ trivial (fun hHeld => ?_)
        clear hK K
        try simp only [Act.put, List.setIfInBounds_toArray, List.set_cons_zero, List.set_cons_succ, List.getElem_toArray, List.getElem_cons_zero, List.getElem_cons_succ]
        have hDz : (Plain.txt (digest [1])).size = 32 := by rw [txt_size, digest_len]
        obtain ⟨dg, hdg⟩ : ∃ dg, Plain.txt (digest [1]) = dg := ⟨_, rfl⟩
        rw [hdg] at hDz ⊢
        clear hdg
        have HR7 : Hid (u7.heap[ge]? = some (.cells (ee n (.slice ao3 L3 cap3)) 34 (0, 0))) := rowKeep HR6.out b7
        have HZ7 : Hid (u7.heap[w.heap.size]? = some (.cells (ee 0 (.slice none 0 0)) 34 (0, 0))) := rowKeep HZ6.out b7
        have HO7 : Hid (Own u7 (w.heap.size + 1) ge 9 (.slice ao3 L3 cap3) (ss E)) := Own.later HO6.out b7 (by omega)
        have HD7 : Hid (Drawn W0 w g vb xs u7) := HD6.out.on hg hgw (b7.mono (by omega))
        have sY7 : ge + 1 ≤ u7.heap.size := Nat.le_trans sY6 b7.size
        have k1_7 : u7.cell? ⟨ge, 1, none⟩ = some (.slice ao3 L3 cap3) := row_at HR7.out 1
        clear k1_6
        refine wpAnyH_ready (rs := [4]) (by kernel_rfl) (by simp) ?_
        refine AllReadyH.cons rfl (fun K hK => ?_) AllReadyH.nil
        go_simp
        refine hK.out _ _ trivial (fun hHeld => ?_)
        clear hK K
        try simp only [Act.put, List.setIfInBounds_toArray, List.set_cons_zero, List.set_cons_succ, List.getElem_toArray, List.getElem_cons_zero, List.getElem_cons_succ]
        obtain ⟨u8, HU8, b8, SS⟩ : ∃ X, Hid ((u7.alloc (.cells #[.string dg] 9)) = X) ∧ Below u7.heap.size u7 X ∧ Hid (Sl X (.slice (some ⟨u7.heap.size, 0, none⟩) 1 1) [.string dg]) := ⟨_, rfl, (Below.refl _ _).alloc (Nat.le_refl _) _, Laws.Sl.one _ _ _⟩
        rw [HU8.out]
        have HR8 : Hid (u8.heap[ge]? = some (.cells (ee n (.slice ao3 L3 cap3)) 34 (0, 0))) := rowKeep HR7.out b8
        have HZ8 : Hid (u8.heap[w.heap.size]? = some (.cells (ee 0 (.slice none 0 0)) 34 (0, 0))) := rowKeep HZ7.out b8
        have HO8 : Hid (Own u8 (w.heap.size + 1) ge 9 (.slice ao3 L3 cap3) (ss E)) := Own.later HO7.out b8 (by omega)
        have HD8 : Hid (Drawn W0 w g vb xs u8) := HD7.out.on hg hgw (b8.mono (by omega))
        have sY8 : ge + 1 ≤ u8.heap.size := Nat.le_trans sY7 b8.size
        have k1_8 : u8.cell? ⟨ge, 1, none⟩ = some (.slice ao3 L3 cap3) := row_at HR8.out 1
        clear k1_7
        have oX : Own u8 (w.heap.size + 1) u8.heap.size 9 (.slice ao3 L3 cap3) (ss E) := HO8.out.mono (Nat.le_refl _) (by omega)
        refine wpAnyH_ready (rs := [5]) (by kernel_rfl) (by simp) ?_
        refine AllReadyH.cons rfl (fun K hK => ?_) AllReadyH.nil
        refine step_appG (by rfl) (.tmp 18) (.tmp 21) 24 (by rfl) 9 i0 (.string ⟨#[]⟩) 16 Tryd.underlying24 hi hz0 hz1 hz2 rfl (w.heap.size + 1) _ _ (by rfl) oX _ (by rfl) [.string dg] SS.out (oneT _) cA cB (by omega) ?_
        intro v7 w7 o7 b7 g7
        refine hK.out _ _ trivial (fun hHeld => ?_)
        clear hK K
        try simp only [Act.put, List.setIfInBounds_toArray, List.set_cons_zero, List.set_cons_succ, List.getElem_toArray, List.getElem_cons_zero, List.getElem_cons_succ]
        have o7 : Own w7 (w.heap.size + 1) w7.heap.size 9 v7 (ss (E ++ [dg])) := by rw [ss_app]; exact o7
        have hne : some ge ≠ (Value.slice ao3 L3 cap3).ownBlock := by
          intro h
          have := (Own.owns HO8.out h.symm).2
          omega
        have r7 : w7.heap[ge]? = some (.cells (ee n (.slice ao3 L3 cap3)) 34 (0, 0)) := (g7.block ge (by omega) hne).trans HR8.out
        have z7 : w7.heap[w.heap.size]? = some (.cells (ee 0 (.slice none 0 0)) 34 (0, 0)) := (b7.block w.heap.size (by omega)).trans HZ8.out
        have s7 := g7.size
        have D7 : Drawn W0 w g vb xs w7 := HD8.out.on hg hgw (b7.mono (by omega))
        have h7n : ∀ gg, v7.ownBlock = some gg → gg ≠ ge := by
          intro gg hgg he
          subst he
          obtain ⟨⟨_, hh⟩, _⟩ := o7
          rcases hh with ⟨rfl, _⟩ | ⟨g', cp, cur, rfl, _, hcur, _⟩
          · cases hgg
          · simp only [Value.ownBlock, Option.some.injEq] at hgg
            rw [hgg, r7] at hcur
            have := Option.some.inj hcur
            simp only [Obj.cells.injEq] at this
            exact absurd this.2.1 (by decide)
        obtain ⟨ao7, L7, cap7, rfl, _, _⟩ := Mem.Own.form o7
        have k7 : w7.cell? ⟨ge, 1, none⟩ = some (.slice ao3 L3 cap3) := row_at r7 1
        have f7 : w7.frozen? ⟨ge, 1, none⟩ = false := row_free r7 1
        (refine wpAnyH_take (i := 6) (v := ?v6x3) rfl (by kernel_rfl) (by kernel_rfl) (by kernel_rfl) (fun _ _ _ h => h) (Or.inl ⟨by rfl, ?hy6x3⟩) (by assumption) ?rest6x3; case hy6x3 => (intro w hSw; (try dsimp only at hSw); go_split_ands; go_simp; (try with_reducible rfl)))
        try simp only [Act.put, List.setIfInBounds_toArray, List.set_cons_zero, List.set_cons_succ, List.getElem_toArray, List.getElem_cons_zero, List.getElem_cons_succ]
        refine wpAnyH_ready (rs := [7]) (by kernel_rfl) (by simp) ?_
        refine AllReadyH.cons rfl (fun K hK => ?_) AllReadyH.nil
        go_simp
        refine hK.out _ _ trivial (fun hHeld => ?_)
        clear hK K
        try simp only [Act.put, List.setIfInBounds_toArray, List.set_cons_zero, List.set_cons_succ, List.getElem_toArray, List.getElem_cons_zero, List.getElem_cons_succ]
        refine wpAnyH_done (by kernel_rfl) ?_ _
        clear hHeld
        have HR9 : Hid ((w7.setCell ⟨ge, 1, none⟩ (.slice ao7 L7 cap7)).heap[ge]? = some (.cells (ee n (.slice ao7 L7 cap7)) 34 (0, 0))) := row_set r7 1 _
        have HR09 : Hid ((w7.setCell ⟨ge, 1, none⟩ (.slice ao7 L7 cap7)).heap[w.heap.size]? = some (.cells (ee 0 (.slice none 0 0)) 34 (0, 0))) := (Below.heap_setCell _ _ _ _ (by show w.heap.size ≠ ge; omega)).trans z7
        have HO9 : Hid (Own (w7.setCell ⟨ge, 1, none⟩ (.slice ao7 L7 cap7)) (w.heap.size + 1) w7.heap.size 9 (.slice ao7 L7 cap7) (ss (E ++ [dg]))) := Own.keepO o7 (fun gg hgg => Below.heap_setCell _ _ _ _ (h7n gg hgg))
        have HD9 : Hid (Drawn W0 w g vb xs (w7.setCell ⟨ge, 1, none⟩ (.slice ao7 L7 cap7))) := D7.on hg hgw ((Below.refl _ _).setCell (p := ⟨ge, 1, none⟩) (by show _ ≤ ge; omega) _)
        have HDr : Hid (Dr n (E ++ [dg])) := ⟨by omega, by rw [List.length_append]; simp; omega, fun s hs => by
          rcases List.mem_append.1 hs with hs | hs
          · rw [H32.out s hs]; exact Nat.le_refl _
          · simp at hs; rw [hs, hDz]; exact Nat.le_refl _⟩
        have hY : w7.heap.size ≤ (w7.setCell ⟨ge, 1, none⟩ (.slice ao7 L7 cap7)).heap.size := by simp [World.setCell]
        clear r7 z7 D7 h7n o7 b7 g7 oX k7 f7 hDz HR8 HZ8 HO8 HD8 k1_8 SS SB
        obtain ⟨X, hX⟩ : ∃ X, (w7.setCell ⟨ge, 1, none⟩ (.slice ao7 L7 cap7)) = X := ⟨_, rfl⟩
        rw [hX] at HR9 HR09 HO9 HD9 hY ⊢
        clear hX
        go_wp2_with (first | (refine wpList_load_row rfl 34 _ rfl ge rfl 34 (ee n (.slice ao7 L7 cap7)) (0, 0) _ HR9.out Tryd.underlying34 rfl (sizeEd _ _) ?_) | (refine wpList_store_row rfl 34 _ _ rfl w.heap.size (ee n (.slice ao7 L7 cap7)) rfl rfl 34 _ HR09.out (sizeEd _ _) rfl (oneEd _ rfl) ?_))
        refine bodyPost_ret (v := .agg (ee n (.slice ao7 L7 cap7))) (results_cell_row rfl _ _ w.heap.size 34 _ (0, 0) _ rfl (setRow_heap _ _ _ _ _ (0, 0) HR09.out) Tryd.underlying34 rfl (sizeEd _ _)) rfl ⟨n, .slice ao7 L7 cap7, E ++ [dg], rfl, HDr.out, ?_, Drawn.on HD9.out hg hgw (below_setRow (Below.refl _ _) (Nat.le_refl _) _)⟩
        exact (Own.setRow HO9.out _ (by omega)).mono (by omega) (by simp; omega)
      · go_simp
        refine (digest_spec u6 _ [1] SB.out (by intro x hx; simp at hx; omega) (by simp)).mono ?_
        rintro e u7 ⟨rfl, b7⟩
        refine hK.out _ _ trivial (fun hHeld => ?_)
        clear hK K
        try simp only [Act.put, List.setIfInBounds_toArray, List.set_cons_zero, List.set_cons_succ, List.getElem_toArray, List.getElem_cons_zero, List.getElem_cons_succ]
        have hDz : (Plain.txt (digest [1])).size = 32 := by rw [txt_size, digest_len]
        obtain ⟨dg, hdg⟩ : ∃ dg, Plain.txt (digest [1]) = dg := ⟨_, rfl⟩
        rw [hdg] at hDz ⊢
        clear hdg
        have HR7 : Hid (u7.heap[ge]? = some (.cells (ee n (.slice ao3 L3 cap3)) 34 (0, 0))) := rowKeep HR6.out b7
        have HZ7 : Hid (u7.heap[w.heap.size]? = some (.cells (ee 0 (.slice none 0 0)) 34 (0, 0))) := rowKeep HZ6.out b7
        have HO7 : Hid (Own u7 (w.heap.size + 1) ge 9 (.slice ao3 L3 cap3) (ss E)) := Own.later HO6.out b7 (by omega)
        have HD7 : Hid (Drawn W0 w g vb xs u7) := HD6.out.on hg hgw (b7.mono (by omega))
        have sY7 : ge + 1 ≤ u7.heap.size := Nat.le_trans sY6 b7.size
        have k1_7 : u7.cell? ⟨ge, 1, none⟩ = some (.slice ao3 L3 cap3) := row_at HR7.out 1
        clear k1_6
        refine wpAnyH_ready (rs := [1, 4]) (by kernel_rfl) (by simp) ?_
        refine AllReadyH.cons rfl (fun K hK => ?_) (AllReadyH.cons rfl (fun K hK => ?_) AllReadyH.nil)
        · go_simp
          refine hK.out _ _ trivial (fun hHeld => ?_)
          clear hK K
          try simp only [Act.put, List.setIfInBounds_toArray, List.set_cons_zero, List.set_cons_succ, List.getElem_toArray, List.getElem_cons_zero, List.getElem_cons_succ]
          refine wpAnyH_ready (rs := [4]) (by kernel_rfl) (by simp) ?_
          refine AllReadyH.cons rfl (fun K hK => ?_) AllReadyH.nil
          go_simp
          refine hK.out _ _ trivial (fun hHeld => ?_)
          clear hK K
          try simp only [Act.put, List.setIfInBounds_toArray, List.set_cons_zero, List.set_cons_succ, List.getElem_toArray, List.getElem_cons_zero, List.getElem_cons_succ]
          obtain ⟨u8, HU8, b8, SS⟩ : ∃ X, Hid ((u7.alloc (.cells #[.string dg] 9)) = X) ∧ Below u7.heap.size u7 X ∧ Hid (Sl X (.slice (some ⟨u7.heap.size, 0, none⟩) 1 1) [.string dg]) := ⟨_, rfl, (Below.refl _ _).alloc (Nat.le_refl _) _, Laws.Sl.one _ _ _⟩
          rw [HU8.out]
          have HR8 : Hid (u8.heap[ge]? = some (.cells (ee n (.slice ao3 L3 cap3)) 34 (0, 0))) := rowKeep HR7.out b8
          have HZ8 : Hid (u8.heap[w.heap.size]? = some (.cells (ee 0 (.slice none 0 0)) 34 (0, 0))) := rowKeep HZ7.out b8
          have HO8 : Hid (Own u8 (w.heap.size + 1) ge 9 (.slice ao3 L3 cap3) (ss E)) := Own.later HO7.out b8 (by omega)
          have HD8 : Hid (Drawn W0 w g vb xs u8) := HD7.out.on hg hgw (b8.mono (by omega))
          have sY8 : ge + 1 ≤ u8.heap.size := Nat.le_trans sY7 b8.size
          have k1_8 : u8.cell? ⟨ge, 1, none⟩ = some (.slice ao3 L3 cap3) := row_at HR8.out 1
          clear k1_7
          have oX : Own u8 (w.heap.size + 1) u8.heap.size 9 (.slice ao3 L3 cap3) (ss E) := HO8.out.mono (Nat.le_refl _) (by omega)
          refine wpAnyH_ready (rs := [5]) (by kernel_rfl) (by simp) ?_
          refine AllReadyH.cons rfl (fun K hK => ?_) AllReadyH.nil
          refine step_appG (by rfl) (.tmp 18) (.tmp 21) 24 (by rfl) 9 i0 (.string ⟨#[]⟩) 16 Tryd.underlying24 hi hz0 hz1 hz2 rfl (w.heap.size + 1) _ _ (by rfl) oX _ (by rfl) [.string dg] SS.out (oneT _) cA cB (by omega) ?_
          intro v7 w7 o7 b7 g7
          refine hK.out _ _ trivial (fun hHeld => ?_)
          clear hK K
          try simp only [Act.put, List.setIfInBounds_toArray, List.set_cons_zero, List.set_cons_succ, List.getElem_toArray, List.getElem_cons_zero, List.getElem_cons_succ]
          have o7 : Own w7 (w.heap.size + 1) w7.heap.size 9 v7 (ss (E ++ [dg])) := by rw [ss_app]; exact o7
          have hne : some ge ≠ (Value.slice ao3 L3 cap3).ownBlock := by
            intro h
            have := (Own.owns HO8.out h.symm).2
            omega
          have r7 : w7.heap[ge]? = some (.cells (ee n (.slice ao3 L3 cap3)) 34 (0, 0)) := (g7.block ge (by omega) hne).trans HR8.out
          have z7 : w7.heap[w.heap.size]? = some (.cells (ee 0 (.slice none 0 0)) 34 (0, 0)) := (b7.block w.heap.size (by omega)).trans HZ8.out
          have s7 := g7.size
          have D7 : Drawn W0 w g vb xs w7 := HD8.out.on hg hgw (b7.mono (by omega))
          have h7n : ∀ gg, v7.ownBlock = some gg → gg ≠ ge := by
            intro gg hgg he
            subst he
            obtain ⟨⟨_, hh⟩, _⟩ := o7
            rcases hh with ⟨rfl, _⟩ | ⟨g', cp, cur, rfl, _, hcur, _⟩
            · cases hgg
            · simp only [Value.ownBlock, Option.some.injEq] at hgg
              rw [hgg, r7] at hcur
              have := Option.some.inj hcur
              simp only [Obj.cells.injEq] at this
              exact absurd this.2.1 (by decide)
          obtain ⟨ao7, L7, cap7, rfl, _, _⟩ := Mem.Own.form o7
          have k7 : w7.cell? ⟨ge, 1, none⟩ = some (.slice ao3 L3 cap3) := row_at r7 1
          have f7 : w7.frozen? ⟨ge, 1, none⟩ = false := row_free r7 1
          (refine wpAnyH_take (i := 6) (v := ?v6x4) rfl (by kernel_rfl) (by kernel_rfl) (by kernel_rfl) (fun _ _ _ h => h) (Or.inl ⟨by rfl, ?hy6x4⟩) (by assumption) ?rest6x4; case hy6x4 => (intro w hSw; (try dsimp only at hSw); go_split_ands; go_simp; (try with_reducible rfl)))
          try simp only [Act.put, List.setIfInBounds_toArray, List.set_cons_zero, List.set_cons_succ, List.getElem_toArray, List.getElem_cons_zero, List.getElem_cons_succ]
          refine wpAnyH_ready (rs := [7]) (by kernel_rfl) (by simp) ?_
          refine AllReadyH.cons rfl (fun K hK => ?_) AllReadyH.nil
          go_simp
          refine hK.out _ _ trivial (fun hHeld => ?_)
          clear hK K
          try simp only [Act.put, List.setIfInBounds_toArray, List.set_cons_zero, List.set_cons_succ, List.getElem_toArray, List.getElem_cons_zero, List.getElem_cons_succ]
          refine wpAnyH_done (by kernel_rfl) ?_ _
          clear hHeld
          have HR9 : Hid ((w7.setCell ⟨ge, 1, none⟩ (.slice ao7 L7 cap7)).heap[ge]? = some (.cells (ee n (.slice ao7 L7 cap7)) 34 (0, 0))) := row_set r7 1 _
          have HR09 : Hid ((w7.setCell ⟨ge, 1, none⟩ (.slice ao7 L7 cap7)).heap[w.heap.size]? = some (.cells (ee 0 (.slice none 0 0)) 34 (0, 0))) := (Below.heap_setCell _ _ _ _ (by show w.heap.size ≠ ge; omega)).trans z7
          have HO9 : Hid (Own (w7.setCell ⟨ge, 1, none⟩ (.slice ao7 L7 cap7)) (w.heap.size + 1) w7.heap.size 9 (.slice ao7 L7 cap7) (ss (E ++ [dg]))) := Own.keepO o7 (fun gg hgg => Below.heap_setCell _ _ _ _ (h7n gg hgg))
          have HD9 : Hid (Drawn W0 w g vb xs (w7.setCell ⟨ge, 1, none⟩ (.slice ao7 L7 cap7))) := D7.on hg hgw ((Below.refl _ _).setCell (p := ⟨ge, 1, none⟩) (by show _ ≤ ge; omega) _)
          have HDr : Hid (Dr n (E ++ [dg])) := ⟨by omega, by rw [List.length_append]; simp; omega, fun s hs => by
            rcases List.mem_append.1 hs with hs | hs
            · rw [H32.out s hs]; exact Nat.le_refl _
            · simp at hs; rw [hs, hDz]; exact Nat.le_refl _⟩
          have hY : w7.heap.size ≤ (w7.setCell ⟨ge, 1, none⟩ (.slice ao7 L7 cap7)).heap.size := by simp [World.setCell]
          clear r7 z7 D7 h7n o7 b7 g7 oX k7 f7 hDz HR8 HZ8 HO8 HD8 k1_8 SS SB
          obtain ⟨X, hX⟩ : ∃ X, (w7.setCell ⟨ge, 1, none⟩ (.slice ao7 L7 cap7)) = X := ⟨_, rfl⟩
          rw [hX] at HR9 HR09 HO9 HD9 hY ⊢
          clear hX
          go_wp2_with (first | (refine wpList_load_row rfl 34 _ rfl ge rfl 34 (ee n (.slice ao7 L7 cap7)) (0, 0) _ HR9.out Tryd.underlying34 rfl (sizeEd _ _) ?_) | (refine wpList_store_row rfl 34 _ _ rfl w.heap.size (ee n (.slice ao7 L7 cap7)) rfl rfl 34 _ HR09.out (sizeEd _ _) rfl (oneEd _ rfl) ?_))
          refine bodyPost_ret (v := .agg (ee n (.slice ao7 L7 cap7))) (results_cell_row rfl _ _ w.heap.size 34 _ (0, 0) _ rfl (setRow_heap _ _ _ _ _ (0, 0) HR09.out) Tryd.underlying34 rfl (sizeEd _ _)) rfl ⟨n, .slice ao7 L7 cap7, E ++ [dg], rfl, HDr.out, ?_, Drawn.on HD9.out hg hgw (below_setRow (Below.refl _ _) (Nat.le_refl _) _)⟩
          exact (Own.setRow HO9.out _ (by omega)).mono (by omega) (by simp; omega)
        · go_simp
          refine hK.out _ _ trivial (fun hHeld => ?_)
          clear hK K
          try simp only [Act.put, List.setIfInBounds_toArray, List.set_cons_zero, List.set_cons_succ, List.getElem_toArray, List.getElem_cons_zero, List.getElem_cons_succ]
          obtain ⟨u8, HU8, b8, SS⟩ : ∃ X, Hid ((u7.alloc (.cells #[.string dg] 9)) = X) ∧ Below u7.heap.size u7 X ∧ Hid (Sl X (.slice (some ⟨u7.heap.size, 0, none⟩) 1 1) [.string dg]) := ⟨_, rfl, (Below.refl _ _).alloc (Nat.le_refl _) _, Laws.Sl.one _ _ _⟩
          rw [HU8.out]
          have HR8 : Hid (u8.heap[ge]? = some (.cells (ee n (.slice ao3 L3 cap3)) 34 (0, 0))) := rowKeep HR7.out b8
          have HZ8 : Hid (u8.heap[w.heap.size]? = some (.cells (ee 0 (.slice none 0 0)) 34 (0, 0))) := rowKeep HZ7.out b8
          have HO8 : Hid (Own u8 (w.heap.size + 1) ge 9 (.slice ao3 L3 cap3) (ss E)) := Own.later HO7.out b8 (by omega)
          have HD8 : Hid (Drawn W0 w g vb xs u8) := HD7.out.on hg hgw (b8.mono (by omega))
          have sY8 : ge + 1 ≤ u8.heap.size := Nat.le_trans sY7 b8.size
          have k1_8 : u8.cell? ⟨ge, 1, none⟩ = some (.slice ao3 L3 cap3) := row_at HR8.out 1
          clear k1_7
          refine wpAnyH_ready (rs := [1]) (by kernel_rfl) (by simp) ?_
          refine AllReadyH.cons rfl (fun K hK => ?_) AllReadyH.nil
          go_simp
          refine hK.out _ _ trivial (fun hHeld => ?_)
          clear hK K
          try simp only [Act.put, List.setIfInBounds_toArray, List.set_cons_zero, List.set_cons_succ, List.getElem_toArray, List.getElem_cons_zero, List.getElem_cons_succ]
          have oX : Own u8 (w.heap.size + 1) u8.heap.size 9 (.slice ao3 L3 cap3) (ss E) := HO8.out.mono (Nat.le_refl _) (by omega)
          refine wpAnyH_ready (rs := [5]) (by kernel_rfl) (by simp) ?_
          refine AllReadyH.cons rfl (fun K hK => ?_) AllReadyH.nil
          refine step_appG (by rfl) (.tmp 18) (.tmp 21) 24 (by rfl) 9 i0 (.string ⟨#[]⟩) 16 Tryd.underlying24 hi hz0 hz1 hz2 rfl (w.heap.size + 1) _ _ (by rfl) oX _ (by rfl) [.string dg] SS.out (oneT _) cA cB (by omega) ?_
          intro v7 w7 o7 b7 g7
          refine hK.out _ _ trivial (fun hHeld => ?_)
          clear hK K
          try simp only [Act.put, List.setIfInBounds_toArray, List.set_cons_zero, List.set_cons_succ, List.getElem_toArray, List.getElem_cons_zero, List.getElem_cons_succ]
          have o7 : Own w7 (w.heap.size + 1) w7.heap.size 9 v7 (ss (E ++ [dg])) := by rw [ss_app]; exact o7
          have hne : some ge ≠ (Value.slice ao3 L3 cap3).ownBlock := by
            intro h
            have := (Own.owns HO8.out h.symm).2
            omega
          have r7 : w7.heap[ge]? = some (.cells (ee n (.slice ao3 L3 cap3)) 34 (0, 0)) := (g7.block ge (by omega) hne).trans HR8.out
          have z7 : w7.heap[w.heap.size]? = some (.cells (ee 0 (.slice none 0 0)) 34 (0, 0)) := (b7.block w.heap.size (by omega)).trans HZ8.out
          have s7 := g7.size
          have D7 : Drawn W0 w g vb xs w7 := HD8.out.on hg hgw (b7.mono (by omega))
          have h7n : ∀ gg, v7.ownBlock = some gg → gg ≠ ge := by
            intro gg hgg he
            subst he
            obtain ⟨⟨_, hh⟩, _⟩ := o7
            rcases hh with ⟨rfl, _⟩ | ⟨g', cp, cur, rfl, _, hcur, _⟩
            · cases hgg
            · simp only [Value.ownBlock, Option.some.injEq] at hgg
              rw [hgg, r7] at hcur
              have := Option.some.inj hcur
              simp only [Obj.cells.injEq] at this
              exact absurd this.2.1 (by decide)
          obtain ⟨ao7, L7, cap7, rfl, _, _⟩ := Mem.Own.form o7
          have k7 : w7.cell? ⟨ge, 1, none⟩ = some (.slice ao3 L3 cap3) := row_at r7 1
          have f7 : w7.frozen? ⟨ge, 1, none⟩ = false := row_free r7 1
          (refine wpAnyH_take (i := 6) (v := ?v6x5) rfl (by kernel_rfl) (by kernel_rfl) (by kernel_rfl) (fun _ _ _ h => h) (Or.inl ⟨by rfl, ?hy6x5⟩) (by assumption) ?rest6x5; case hy6x5 => (intro w hSw; (try dsimp only at hSw); go_split_ands; go_simp; (try with_reducible rfl)))
          try simp only [Act.put, List.setIfInBounds_toArray, List.set_cons_zero, List.set_cons_succ, List.getElem_toArray, List.getElem_cons_zero, List.getElem_cons_succ]
          refine wpAnyH_ready (rs := [7]) (by kernel_rfl) (by simp) ?_
          refine AllReadyH.cons rfl (fun K hK => ?_) AllReadyH.nil
          go_simp
          refine hK.out _ _ trivial (fun hHeld => ?_)
          clear hK K
          try simp only [Act.put, List.setIfInBounds_toArray, List.set_cons_zero, List.set_cons_succ, List.getElem_toArray, List.getElem_cons_zero, List.getElem_cons_succ]
          refine wpAnyH_done (by kernel_rfl) ?_ _
          clear hHeld
          have HR9 : Hid ((w7.setCell ⟨ge, 1, none⟩ (.slice ao7 L7 cap7)).heap[ge]? = some (.cells (ee n (.slice ao7 L7 cap7)) 34 (0, 0))) := row_set r7 1 _
          have HR09 : Hid ((w7.setCell ⟨ge, 1, none⟩ (.slice ao7 L7 cap7)).heap[w.heap.size]? = some (.cells (ee 0 (.slice none 0 0)) 34 (0, 0))) := (Below.heap_setCell _ _ _ _ (by show w.heap.size ≠ ge; omega)).trans z7
          have HO9 : Hid (Own (w7.setCell ⟨ge, 1, none⟩ (.slice ao7 L7 cap7)) (w.heap.size + 1) w7.heap.size 9 (.slice ao7 L7 cap7) (ss (E ++ [dg]))) := Own.keepO o7 (fun gg hgg => Below.heap_setCell _ _ _ _ (h7n gg hgg))
          have HD9 : Hid (Drawn W0 w g vb xs (w7.setCell ⟨ge, 1, none⟩ (.slice ao7 L7 cap7))) := D7.on hg hgw ((Below.refl _ _).setCell (p := ⟨ge, 1, none⟩) (by show _ ≤ ge; omega) _)
          have HDr : Hid (Dr n (E ++ [dg])) := ⟨by omega, by rw [List.length_append]; simp; omega, fun s hs => by
            rcases List.mem_append.1 hs with hs | hs
            · rw [H32.out s hs]; exact Nat.le_refl _
            · simp at hs; rw [hs, hDz]; exact Nat.le_refl _⟩
          have hY : w7.heap.size ≤ (w7.setCell ⟨ge, 1, none⟩ (.slice ao7 L7 cap7)).heap.size := by simp [World.setCell]
          clear r7 z7 D7 h7n o7 b7 g7 oX k7 f7 hDz HR8 HZ8 HO8 HD8 k1_8 SS SB
          obtain ⟨X, hX⟩ : ∃ X, (w7.setCell ⟨ge, 1, none⟩ (.slice ao7 L7 cap7)) = X := ⟨_, rfl⟩
          rw [hX] at HR9 HR09 HO9 HD9 hY ⊢
          clear hX
          go_wp2_with (first | (refine wpList_load_row rfl 34 _ rfl ge rfl 34 (ee n (.slice ao7 L7 cap7)) (0, 0) _ HR9.out Tryd.underlying34 rfl (sizeEd _ _) ?_) | (refine wpList_store_row rfl 34 _ _ rfl w.heap.size (ee n (.slice ao7 L7 cap7)) rfl rfl 34 _ HR09.out (sizeEd _ _) rfl (oneEd _ rfl) ?_))
          refine bodyPost_ret (v := .agg (ee n (.slice ao7 L7 cap7))) (results_cell_row rfl _ _ w.heap.size 34 _ (0, 0) _ rfl (setRow_heap _ _ _ _ _ (0, 0) HR09.out) Tryd.underlying34 rfl (sizeEd _ _)) rfl ⟨n, .slice ao7 L7 cap7, E ++ [dg], rfl, HDr.out, ?_, Drawn.on HD9.out hg hgw (below_setRow (Below.refl _ _) (Nat.le_refl _) _)⟩
          exact (Own.setRow HO9.out _ (by omega)).mono (by omega) (by simp; omega)
  have xb : (x == 1) = false := by rw [beq_eq_false_iff_ne]; exact x11
  by_cases x22 : x = 2
  · subst x22
    clear x00 xa x11 xb
    by_cases hL0 : 0 < L3
    · obtain ⟨gb, rfl, hb1, hb2, cur, hcur, hcs⟩ := Own.block0 HO.out hL0
      have hL0' : (0 : Int) < (L3 : Int) := by omega
      obtain ⟨u0, kb⟩ : ∃ u0, w5.cell? ⟨gb, 0, none⟩ = some u0 := ⟨cur[0], by rw [row_at hcur 0]; simp [hcs]⟩
      have fb : w5.frozen? ⟨gb, 0, none⟩ = false := row_free hcur 0
      have HR6 : Hid ((w5.setCell ⟨gb, 0, none⟩ (.string ⟨#[120]⟩)).heap[ge]? = some (.cells (ee n (.slice (some ⟨gb, 0, none⟩) L3 cap3)) 34 (0, 0))) := (Below.heap_setCell _ _ _ _ (by show ge ≠ gb; omega)).trans HR.out
      have HR06 : Hid ((w5.setCell ⟨gb, 0, none⟩ (.string ⟨#[120]⟩)).heap[w.heap.size]? = some (.cells (ee 0 (.slice none 0 0)) 34 (0, 0))) := (Below.heap_setCell _ _ _ _ (by show w.heap.size ≠ gb; omega)).trans HR0.out
      have HO6 : Hid (Own (w5.setCell ⟨gb, 0, none⟩ (.string ⟨#[120]⟩)) (w.heap.size + 1) ge 9 (.slice (some ⟨gb, 0, none⟩) L3 cap3) (ss (E.set 0 ⟨#[120]⟩))) := Own.put HO.out 0 _
      have HD6 : Hid (Drawn W0 w g vb xs (w5.setCell ⟨gb, 0, none⟩ (.string ⟨#[120]⟩))) := HD.out.on hg hgw ((Below.refl _ _).setCell (p := ⟨gb, 0, none⟩) (by show _ ≤ gb; omega) _)
      have HDr : Hid (Dr n (E.set 0 ⟨#[120]⟩)) := ⟨by omega, by rw [List.length_set]; omega, fun s hs => by
        rcases List.mem_or_eq_of_mem_set hs with hs | hs
        · rw [H32.out s hs]; exact Nat.le_refl _
        · rw [hs]; decide⟩
      have hY : ge + 1 ≤ (w5.setCell ⟨gb, 0, none⟩ (.string ⟨#[120]⟩)).heap.size := by simp [World.setCell]; omega
      clear HR HR0 HO HD hcur hcs f0 f1 c0
      go_wp2_with (first | (refine wpList_load_row rfl 34 _ rfl ge rfl 34 (ee n (.slice (some ⟨gb, 0, none⟩) L3 cap3)) (0, 0) _ HR6.out Tryd.underlying34 rfl (sizeEd _ _) ?_) | (refine wpList_store_row rfl 34 _ _ rfl w.heap.size (ee n (.slice (some ⟨gb, 0, none⟩) L3 cap3)) rfl rfl 34 _ HR06.out (sizeEd _ _) rfl (oneEd _ rfl) ?_))
      refine bodyPost_ret (v := .agg (ee n (.slice (some ⟨gb, 0, none⟩) L3 cap3))) (results_cell_row rfl _ _ w.heap.size 34 _ (0, 0) _ rfl (setRow_heap _ _ _ _ _ (0, 0) HR06.out) Tryd.underlying34 rfl (sizeEd _ _)) rfl ⟨n, .slice (some ⟨gb, 0, none⟩) L3 cap3, E.set 0 ⟨#[120]⟩, rfl, HDr.out, ?_, Drawn.on HD6.out hg hgw (below_setRow (Below.refl _ _) (Nat.le_refl _) _)⟩
      exact (Own.setRow HO6.out _ (by omega)).mono (by omega) (by simp; omega)
    · obtain rfl : L3 = 0 := by omega
      clear hL0
      go_wp2_with (first | (refine wpList_load_row rfl 34 _ rfl ge rfl 34 (ee n (.slice ao3 0 cap3)) (0, 0) _ HR.out Tryd.underlying34 rfl (sizeEd _ _) ?_) | (refine wpList_store_row rfl 34 _ _ rfl w.heap.size (ee n (.slice ao3 0 cap3)) rfl rfl 34 _ HR0.out (sizeEd _ _) rfl (oneEd _ rfl) ?_))
      refine bodyPost_ret (v := .agg (ee n (.slice ao3 0 cap3))) (results_cell_row rfl _ _ w.heap.size 34 _ (0, 0) _ rfl (setRow_heap _ _ _ _ _ (0, 0) HR0.out) Tryd.underlying34 rfl (sizeEd _ _)) rfl ⟨n, .slice ao3 0 cap3, E, rfl, ⟨by omega, by omega, fun s hs => by rw [H32.out s hs]; exact Nat.le_refl _⟩, ?_, Drawn.on HD.out hg hgw (below_setRow (Below.refl _ _) (Nat.le_refl _) _)⟩
      exact (Own.setRow HO.out _ (by omega)).mono (by omega) (by simp; omega)
  have xc : (x == 2) = false := by rw [beq_eq_false_iff_ne]; exact x22
  clear x00 x11 x22
  go_wp2_with (first | (refine wpList_load_row rfl 34 _ rfl ge rfl 34 (ee n (.slice ao3 L3 cap3)) (0, 0) _ HR.out Tryd.underlying34 rfl (sizeEd _ _) ?_) | (refine wpList_store_row rfl 34 _ _ rfl w.heap.size (ee n (.slice ao3 L3 cap3)) rfl rfl 34 _ HR0.out (sizeEd _ _) rfl (oneEd _ rfl) ?_))
  refine bodyPost_ret (v := .agg (ee n (.slice ao3 L3 cap3))) (results_cell_row rfl _ _ w.heap.size 34 _ (0, 0) _ rfl (setRow_heap _ _ _ _ _ (0, 0) HR0.out) Tryd.underlying34 rfl (sizeEd _ _)) rfl ⟨n, .slice ao3 L3 cap3, E, rfl, ⟨by omega, by omega, fun s hs => by rw [H32.out s hs]; exact Nat.le_refl _⟩, ?_, Drawn.on HD.out hg hgw (below_setRow (Below.refl _ _) (Nat.le_refl _) _)⟩
  exact (Own.setRow HO.out _ (by omega)).mono (by omega) (by simp; omega)
end Go.Proofs.YthbonifpdpknnaaDoor.Ed
