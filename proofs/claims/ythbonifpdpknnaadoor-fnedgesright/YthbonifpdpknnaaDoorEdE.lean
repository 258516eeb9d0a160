/- Chapter 7: drawn edges with a text. -/
import Derived.Test.YthbonifpdpknnaaDoorEdD
namespace Go.Proofs.YthbonifpdpknnaaDoor.Ed
open Go.RowKit Go.Proofs.YthbonifpdpknnaaDoor.Mem Go.Proofs.YthbonifpdpknnaaDoor.Laws Go.Proofs.YthbonifpdpknnaaDoor.Bytes Go.Proofs.YthbonifpdpknnaaDoor.Sha Go.Proofs.YthbonifpdpknnaaDoor.Tr Go.Proofs.YthbonifpdpknnaaDoor.Draw
set_option linter.unusedVariables false
set_option linter.unusedSimpArgs false

set_option maxRecDepth 1000000 in
theorem once7 (W0 w : World) (g : Nat) (vb : Value) (xs : List Int) (n : Int) (hn1 : 1 ≤ n) (hn2 : n ≤ 9223372036854775807) (hs : Sl W0 vb (bs xs)) (hby : Byt xs) (hx : xs.length ≤ 140737488355328) (hB : Below W0.heap.size W0 w) (hg : W0.heap.size ≤ g) (hc : Cur w g vb xs.length) :
    Calls Tryd.prog 46 #[.pointer (some ⟨g, 0, none⟩), .int .i64 n] w fun e w' => ∃ b : Bool, e = .returned (.bool b) ∧ Drawn W0 w g vb xs w' := by
  go_enter Tryd.func46, Tryd.ntmps46
  go_wp2_with fail
  refine (below_any W0 _ g vb xs n hn1 hn2 hs hby hx hB hg hc).mono ?_
  rintro e w2 ⟨a, rfl, a0, a1, hd2⟩
  go_wp2_with fail
  go_ret
  exact ⟨_, rfl, hd2⟩

set_option maxRecDepth 1000000 in
set_option maxHeartbeats 8000000 in
theorem draw_edge (w : World) (vb : Value) (xs : List Int) (hs : Sl w vb (bs xs)) (hby : Byt xs) (hx : xs.length ≤ 140737488355328) :
    Calls Tryd.prog 24 #[vb] w fun e w' => ∃ (n : Int) (v' : Value) (hs : List ByteArray) (s : ByteArray), e = .returned (.tuple #[.agg #[.int .i64 n, v'], .string s]) ∧ Dr n hs ∧ s.size ≤ 9 ∧ Own w' w.heap.size w'.heap.size 9 v' (ss hs) ∧ Below w.heap.size w w' := by
  obtain ⟨i0, hi, hz0, hz1, hz2⟩ := info_parts info9t
  obtain ⟨W, hW⟩ : ∃ W, w.alloc (.cells #[.int .i64 0, .slice none 0 0] 34) = W := ⟨_, rfl⟩
  have bW : Hid (Below w.heap.size w W) := by show Below _ _ _; rw [← hW]; exact (Below.refl _ _).alloc (Nat.le_refl _) _
  have zW : w.heap.size + 1 ≤ W.heap.size := by rw [← hW]; simp
  have rW : Hid (W.heap[w.heap.size]? = some (.cells (ee 0 (.slice none 0 0)) 34 (0, 0))) := by show _ = _; rw [← hW]; exact heap_alloc_new w _
  have hsW : Hid (Sl W vb (bs xs)) := hs.later bW.out
  have q1 := new_any W vb xs hsW.out hby hx
  have HW : Hid _ := hW
  clear hW hs
  go_enter Tryd.func24, Tryd.ntmps24
  go_wp2_with fail
  rw [HW.out]
  refine q1.mono ?_
  rintro e w1 ⟨rfl, d1⟩
  have d1g : Hid (W.heap.size < w1.heap.size) := d1.cur.lt
  have q2 := once7 W w1 W.heap.size vb xs 60 (by omega) (by omega) hsW.out hby hx d1.below (Nat.le_refl _) d1.cur
  clear q1 HW
  go_wp2_with fail
  refine q2.mono ?_
  rintro e w2 ⟨b, rfl, d2⟩
  have s2 : w1.heap.size ≤ w2.heap.size := d2.apart.size
  clear q2 d1
  cases b
  · have q3 := any7_any W w2.drew W.heap.size vb xs hsW.out hby hx (Below.drew d2.below) (Nat.le_refl _) d2.cur
    go_wp2_with fail
    refine wp_region_held_drew (S := fun _ => True) (by kernel_rfl) trivial (fun hHeld => ?_)
    (refine wpAnyH_take (i := 0) (v := ?v0x1) rfl (by kernel_rfl) (by kernel_rfl) (by kernel_rfl) (fun _ _ _ h => h) (Or.inl ⟨by rfl, ?hy0x1⟩) (by assumption) ?rest0x1; case hy0x1 => (intro w hSw; (try dsimp only at hSw); go_split_ands; go_simp; (try with_reducible rfl)))
    try simp only [Act.put, List.setIfInBounds_toArray, List.set_cons_zero, List.set_cons_succ, List.getElem_toArray, List.getElem_cons_zero, List.getElem_cons_succ]
    (refine wpAnyH_take (i := 2) (v := ?v2x2) rfl (by kernel_rfl) (by kernel_rfl) (by kernel_rfl) (fun _ _ _ h => h) (Or.inl ⟨by rfl, ?hy2x2⟩) (by assumption) ?rest2x2; case hy2x2 => (intro w hSw; (try dsimp only at hSw); go_split_ands; go_simp; (try with_reducible rfl)))
    try simp only [Act.put, List.setIfInBounds_toArray, List.set_cons_zero, List.set_cons_succ, List.getElem_toArray, List.getElem_cons_zero, List.getElem_cons_succ]
    refine wpAnyH_ready (rs := [1]) (by kernel_rfl) (by simp) ?_
    refine AllReadyH.cons rfl (fun K hK => ?_) AllReadyH.nil
    go_simp
    refine q3.mono ?_
    rintro e w3 ⟨n, v3, hs3, rfl, hDr, o3, d3⟩
    refine hK.out _ _ trivial (fun hHeld => ?_)
    clear hK K
    try simp only [Act.put, List.setIfInBounds_toArray, List.set_cons_zero, List.set_cons_succ, List.getElem_toArray, List.getElem_cons_zero, List.getElem_cons_succ]
    obtain ⟨ao3, L3, cap3, rfl, _, _⟩ := Mem.Own.form o3
    have s3 : w2.heap.size ≤ w3.heap.size := d3.apart.size
    have q4 := some_any W w3 W.heap.size vb xs hsW.out hby hx d3.below (Nat.le_refl _) d3.cur
    refine wpAnyH_ready (rs := [3]) (by kernel_rfl) (by simp) ?_
    refine AllReadyH.cons rfl (fun K hK => ?_) AllReadyH.nil
    go_simp
    refine q4.mono ?_
    rintro e w4 ⟨v4, ys, rfl, hy9, hyb, o4, d4⟩
    refine hK.out _ _ trivial (fun hHeld => ?_)
    clear hK K
    try simp only [Act.put, List.setIfInBounds_toArray, List.set_cons_zero, List.set_cons_succ, List.getElem_toArray, List.getElem_cons_zero, List.getElem_cons_succ]
    have o3' : Own w4 w2.heap.size w3.heap.size 9 (.slice ao3 L3 cap3) (ss hs3) := Own.drawn (Mem.Own.mono (lo' := w2.heap.size) o3 (Nat.le_refl _) (Nat.le_refl _)) d4 (.inl (by have := d1g.out; omega)) (Nat.le_refl _)
    have s4 : w3.heap.size ≤ w4.heap.size := d4.apart.size
    have hcv := conv_sl o4.sl hyb
    obtain ⟨ao4, L4, cap4, rfl, _, _⟩ := Mem.Own.form o4
    have hsz : (Plain.txt ys).size ≤ 9 := by rw [txt_size]; exact hy9
    obtain ⟨s, hss⟩ : ∃ s, Plain.txt ys = s := ⟨_, rfl⟩
    rw [hss] at hcv hsz
    have J0 : w4.heap[w.heap.size]? = some (.cells (ee 0 (.slice none 0 0)) 34 (0, 0)) := rowKeep rW.out d4.below
    obtain ⟨X, hX⟩ : ∃ X, w4.setRow w.heap.size (ee n (.slice ao3 L3 cap3)) = X := ⟨_, rfl⟩
    have hcv2 : (convert 22 9 (.slice ao4 L4 cap4)).run Tryd.prog X = .ok (.string s) X := by
      rw [← hX, ← hss]
      exact conv_sl (Own.setRow o4 _ (.inl (by have := d1g.out; omega))).sl hyb
    have HX : Hid (w4.setRow w.heap.size (ee n (.slice ao3 L3 cap3)) = X) := hX
    clear hX
    refine wpAnyH_ready (rs := [4, 5]) (by kernel_rfl) (by simp) ?_
    refine AllReadyH.cons rfl (fun K hK => ?_) (AllReadyH.cons rfl (fun K hK => ?_) AllReadyH.nil)
    · go_simp
      refine hK.out _ _ trivial (fun hHeld => ?_)
      clear hK K
      try simp only [Act.put, List.setIfInBounds_toArray, List.set_cons_zero, List.set_cons_succ, List.getElem_toArray, List.getElem_cons_zero, List.getElem_cons_succ]
      refine wpAnyH_ready (rs := [5]) (by kernel_rfl) (by simp) ?_
      refine AllReadyH.cons rfl (fun K hK => ?_) AllReadyH.nil
      rw [if_pos (by rfl)]
      refine wp_store_row 34 _ _ rfl w.heap.size (ee n (.slice ao3 L3 cap3)) rfl rfl 34 _ J0 (sizeEd _ _) rfl (oneEd _ rfl) ?_
      rw [HX.out]
      refine hK.out _ _ trivial (fun hHeld => ?_)
      clear hK K
      try simp only [Act.put, List.setIfInBounds_toArray, List.set_cons_zero, List.set_cons_succ, List.getElem_toArray, List.getElem_cons_zero, List.getElem_cons_succ]
      (refine wpAnyH_take (i := 6) (v := ?v6x3) rfl (by kernel_rfl) (by kernel_rfl) (by kernel_rfl) (fun _ _ _ h => h) (Or.inl ⟨by rfl, ?hy6x3⟩) (by assumption) ?rest6x3; case hy6x3 => (intro w hSw; (try dsimp only at hSw); go_split_ands; go_simp; (try with_reducible rfl)))
      try simp only [Act.put, List.setIfInBounds_toArray, List.set_cons_zero, List.set_cons_succ, List.getElem_toArray, List.getElem_cons_zero, List.getElem_cons_succ]
      refine wpAnyH_done (by kernel_rfl) ?_ _
      clear hHeld
      have HB : Below w.heap.size w w4 := bW.out.trans (d4.below.mono bW.out.size)
      have HB2 : Below w.heap.size w X := by rw [← HX.out]; exact below_setRow HB (Nat.le_refl _) _
      have HR2 : X.heap[w.heap.size]? = some (.cells (ee n (.slice ao3 L3 cap3)) 34 (0, 0)) := by rw [← HX.out]; exact setRow_heap _ _ _ _ _ (0, 0) J0
      have HO2 : Own X w.heap.size X.heap.size 9 (.slice ao3 L3 cap3) (ss hs3) := by rw [← HX.out]; exact (Own.setRow o3' _ (by have := d1g.out; omega)).mono (by have := d1g.out; omega) (by simp; omega)
      go_wp2
      refine bodyPost_ret (res_row_tmp rfl _ _ w.heap.size 34 (ee n (.slice ao3 L3 cap3)) (0, 0) _ rfl HR2 Tryd.underlying34 rfl (sizeEd _ _)) rfl ⟨n, .slice ao3 L3 cap3, hs3, s, rfl, hDr, by omega, HO2, HB2⟩
    · rw [if_pos (by rfl)]
      refine wp_store_row 34 _ _ rfl w.heap.size (ee n (.slice ao3 L3 cap3)) rfl rfl 34 _ J0 (sizeEd _ _) rfl (oneEd _ rfl) ?_
      rw [HX.out]
      refine hK.out _ _ trivial (fun hHeld => ?_)
      clear hK K
      try simp only [Act.put, List.setIfInBounds_toArray, List.set_cons_zero, List.set_cons_succ, List.getElem_toArray, List.getElem_cons_zero, List.getElem_cons_succ]
      refine wpAnyH_ready (rs := [4]) (by kernel_rfl) (by simp) ?_
      refine AllReadyH.cons rfl (fun K hK => ?_) AllReadyH.nil
      go_simp
      refine hK.out _ _ trivial (fun hHeld => ?_)
      clear hK K
      try simp only [Act.put, List.setIfInBounds_toArray, List.set_cons_zero, List.set_cons_succ, List.getElem_toArray, List.getElem_cons_zero, List.getElem_cons_succ]
      (refine wpAnyH_take (i := 6) (v := ?v6x4) rfl (by kernel_rfl) (by kernel_rfl) (by kernel_rfl) (fun _ _ _ h => h) (Or.inl ⟨by rfl, ?hy6x4⟩) (by assumption) ?rest6x4; case hy6x4 => (intro w hSw; (try dsimp only at hSw); go_split_ands; go_simp; (try with_reducible rfl)))
      try simp only [Act.put, List.setIfInBounds_toArray, List.set_cons_zero, List.set_cons_succ, List.getElem_toArray, List.getElem_cons_zero, List.getElem_cons_succ]
      refine wpAnyH_done (by kernel_rfl) ?_ _
      clear hHeld
      have HB : Below w.heap.size w w4 := bW.out.trans (d4.below.mono bW.out.size)
      have HB2 : Below w.heap.size w X := by rw [← HX.out]; exact below_setRow HB (Nat.le_refl _) _
      have HR2 : X.heap[w.heap.size]? = some (.cells (ee n (.slice ao3 L3 cap3)) 34 (0, 0)) := by rw [← HX.out]; exact setRow_heap _ _ _ _ _ (0, 0) J0
      have HO2 : Own X w.heap.size X.heap.size 9 (.slice ao3 L3 cap3) (ss hs3) := by rw [← HX.out]; exact (Own.setRow o3' _ (by have := d1g.out; omega)).mono (by have := d1g.out; omega) (by simp; omega)
      go_wp2
      refine bodyPost_ret (res_row_tmp rfl _ _ w.heap.size 34 (ee n (.slice ao3 L3 cap3)) (0, 0) _ rfl HR2 Tryd.underlying34 rfl (sizeEd _ _)) rfl ⟨n, .slice ao3 L3 cap3, hs3, s, rfl, hDr, by omega, HO2, HB2⟩
  · have q3 := below_any W w2 W.heap.size vb xs 2 (by omega) (by omega) hsW.out hby hx d2.below (Nat.le_refl _) d2.cur
    go_wp2_with fail
    refine q3.mono ?_
    rintro e w3 ⟨x, rfl, x0, x1, d3⟩
    clear q3
    rcases (show x = 0 ∨ x = 1 by omega) with hx2 | hx2
    · subst hx2
      have q4 : ∀ W' v', Sl W' v' (ss (List.replicate 200 (⟨#[]⟩ : ByteArray))) → _ := fun W' v' h => of_spec W' v' (List.replicate 200 ⟨#[]⟩) h (by simp) (fun s h => by rw [List.eq_of_mem_replicate h]; decide)
      rw [show edgeOf (List.replicate 200 (⟨#[]⟩ : ByteArray)) = (200, edge (List.replicate 200 ⟨#[]⟩)) by unfold edgeOf; rw [if_pos (by simp), List.length_replicate]] at q4
      have e8 : (edge (List.replicate 200 (⟨#[]⟩ : ByteArray))).length ≤ 8 := by rw [edge_len, List.length_replicate]; exact popc_le ⟨200, by omega⟩
      have e32 := edge_sizes (List.replicate 200 (⟨#[]⟩ : ByteArray))
      obtain ⟨E, hE⟩ : ∃ E, edge (List.replicate 200 (⟨#[]⟩ : ByteArray)) = E := ⟨_, rfl⟩
      simp only [hE] at q4 e8 e32
      have HDr : Hid (Dr 200 E) := ⟨by omega, by omega, fun s hs => by rw [e32 s hs]; exact Nat.le_refl _⟩
      clear hE e8 e32
      go_wp2_with (at_make; refine wpList_make_full _ rfl _ _ 24 rfl w3.heap.size 9 i0 (.string ⟨#[]⟩) 1 Tryd.underlying24 hi hz0 hz1 _ _ _ _ 200 rfl rfl rfl rfl (by rw [hz2]; omega) (by unfold maxLen; omega) (Nat.le_refl _) ?_)
      intro w4 hown hgrow
      have b4 : Below w3.heap.size w3 w4 := (Below.refl _ _).grown hgrow (Nat.le_refl _) (by simp)
      have hmc : (madeCells #[Value.string ⟨#[]⟩] 200).toList = ss (List.replicate 200 (⟨#[]⟩ : ByteArray)) := by kernel_rfl
      rw [hmc] at hown
      have q4 := q4 w4 _ (Own.of hown).sl
      clear hmc hgrow hown
      go_wp2_with fail
      refine q4.mono ?_
      rintro e w5 ⟨v5, rfl, o5, b5⟩
      obtain ⟨ao5, L5, cap5, rfl, _, _⟩ := Mem.Own.form o5
      have B5 : Below W.heap.size W w5 := (d3.below.trans (b4.mono d3.below.size)).trans (b5.mono (Nat.le_trans d3.below.size b4.size))
      have J0 : Hid (w5.heap[w.heap.size]? = some (.cells (ee 0 (.slice none 0 0)) 34 (0, 0))) := rowKeep rW.out B5
      have s5 : w.heap.size + 1 ≤ w4.heap.size := Nat.le_trans zW (Nat.le_trans d3.below.size b4.size)
      have HO : Hid (Own w5 w4.heap.size w5.heap.size 9 (.slice ao5 L5 cap5) (ss E)) := o5
      have HB : Hid (Below w.heap.size w w5) := bW.out.trans (B5.mono bW.out.size)
      clear q4 o5 b5 b4 B5 d3
      go_wp2_with (refine wpList_store_row rfl 34 _ _ rfl w.heap.size (ee 200 (.slice ao5 L5 cap5)) rfl rfl 34 _ J0.out (sizeEd _ _) rfl (oneEd _ rfl) ?_)
      refine bodyPost_ret (res_row_tmp rfl _ _ w.heap.size 34 (ee 200 (.slice ao5 L5 cap5)) (0, 0) _ rfl (setRow_heap _ _ _ _ _ (0, 0) J0.out) Tryd.underlying34 rfl (sizeEd _ _)) rfl ⟨200, .slice ao5 L5 cap5, E, ⟨#[97]⟩, rfl, HDr.out, by decide, ?_, below_setRow HB.out (Nat.le_refl _) _⟩
      exact (Own.setRow HO.out _ (by omega)).mono (by omega) (by simp)
    · subst hx2
      have q4 : ∀ W' v', Sl W' v' (ss (List.replicate 199 (⟨#[]⟩ : ByteArray))) → _ := fun W' v' h => of_spec W' v' (List.replicate 199 ⟨#[]⟩) h (by simp) (fun s h => by rw [List.eq_of_mem_replicate h]; decide)
      rw [show edgeOf (List.replicate 199 (⟨#[]⟩ : ByteArray)) = (199, edge (List.replicate 199 ⟨#[]⟩)) by unfold edgeOf; rw [if_pos (by simp), List.length_replicate]] at q4
      have e8 : (edge (List.replicate 199 (⟨#[]⟩ : ByteArray))).length ≤ 8 := by rw [edge_len, List.length_replicate]; exact popc_le ⟨199, by omega⟩
      have e32 := edge_sizes (List.replicate 199 (⟨#[]⟩ : ByteArray))
      obtain ⟨E, hE⟩ : ∃ E, edge (List.replicate 199 (⟨#[]⟩ : ByteArray)) = E := ⟨_, rfl⟩
      simp only [hE] at q4 e8 e32
      have HDr : Hid (Dr 199 E) := ⟨by omega, by omega, fun s hs => by rw [e32 s hs]; exact Nat.le_refl _⟩
      clear hE e8 e32
      go_wp2_with (at_make; refine wpList_make_full _ rfl _ _ 24 rfl w3.heap.size 9 i0 (.string ⟨#[]⟩) 1 Tryd.underlying24 hi hz0 hz1 _ _ _ _ 199 rfl rfl rfl rfl (by rw [hz2]; omega) (by unfold maxLen; omega) (Nat.le_refl _) ?_)
      intro w4 hown hgrow
      have b4 : Below w3.heap.size w3 w4 := (Below.refl _ _).grown hgrow (Nat.le_refl _) (by simp)
      have hmc : (madeCells #[Value.string ⟨#[]⟩] 199).toList = ss (List.replicate 199 (⟨#[]⟩ : ByteArray)) := by kernel_rfl
      rw [hmc] at hown
      have q4 := q4 w4 _ (Own.of hown).sl
      clear hmc hgrow hown
      go_wp2_with fail
      refine q4.mono ?_
      rintro e w5 ⟨v5, rfl, o5, b5⟩
      obtain ⟨ao5, L5, cap5, rfl, _, _⟩ := Mem.Own.form o5
      have B5 : Below W.heap.size W w5 := (d3.below.trans (b4.mono d3.below.size)).trans (b5.mono (Nat.le_trans d3.below.size b4.size))
      have J0 : Hid (w5.heap[w.heap.size]? = some (.cells (ee 0 (.slice none 0 0)) 34 (0, 0))) := rowKeep rW.out B5
      have s5 : w.heap.size + 1 ≤ w4.heap.size := Nat.le_trans zW (Nat.le_trans d3.below.size b4.size)
      have HO : Hid (Own w5 w4.heap.size w5.heap.size 9 (.slice ao5 L5 cap5) (ss E)) := o5
      have HB : Hid (Below w.heap.size w w5) := bW.out.trans (B5.mono bW.out.size)
      clear q4 o5 b5 b4 B5 d3
      go_wp2_with (refine wpList_store_row rfl 34 _ _ rfl w.heap.size (ee 199 (.slice ao5 L5 cap5)) rfl rfl 34 _ J0.out (sizeEd _ _) rfl (oneEd _ rfl) ?_)
      refine bodyPost_ret (res_row_tmp rfl _ _ w.heap.size 34 (ee 199 (.slice ao5 L5 cap5)) (0, 0) _ rfl (setRow_heap _ _ _ _ _ (0, 0) J0.out) Tryd.underlying34 rfl (sizeEd _ _)) rfl ⟨199, .slice ao5 L5 cap5, E, ⟨#[97]⟩, rfl, HDr.out, by decide, ?_, below_setRow HB.out (Nat.le_refl _) _⟩
      exact (Own.setRow HO.out _ (by omega)).mono (by omega) (by simp)

end Go.Proofs.YthbonifpdpknnaaDoor.Ed
