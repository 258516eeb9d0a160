/- Chapter 7, the specification's side: one more. -/
import Derived.Test.YthbonifpdpknnaaDoorEd2
namespace Go.Proofs.YthbonifpdpknnaaDoor.Ed
open Go.RowKit Go.Proofs.YthbonifpdpknnaaDoor.Mem Go.Proofs.YthbonifpdpknnaaDoor.Laws Go.Proofs.YthbonifpdpknnaaDoor.Bytes Go.Proofs.YthbonifpdpknnaaDoor.Sha Go.Proofs.YthbonifpdpknnaaDoor.Tr
set_option linter.unusedVariables false
set_option linter.unusedSimpArgs false

set_option maxRecDepth 1000000 in
set_option maxHeartbeats 4000000 in
theorem add1_spec (w : World) (n : Nat) (v : Value) (hs : List ByteArray) (s : ByteArray) (h : Sl w v (ss hs)) (hn : n ≤ 200) (hp : hs.length = popc n) (hz : ∀ t ∈ hs, t.size = 32) (hsz : s.size ≤ 10000000000) :
    Calls Tryd.prog 52 #[.agg #[.int .i64 (n : Int), v], .string s] w fun e w' => ∃ v', e = .returned (.agg #[.int .i64 ((n : Int) + 1), v']) ∧ Own w' w.heap.size w'.heap.size 9 v' (ss (carry n hs (leafH s))) ∧ Below w.heap.size w w' := by
  obtain ⟨i0, hi, hz0, hz1, hz2⟩ := info_parts info9t
  have hl8 := popc_le ⟨n, by omega⟩
  simp only at hl8
  have hb8 : hs.length ≤ 8 := by omega
  have HPP : Hid (hs.length = popc n) := hp
  clear hp hl8
  obtain ⟨W, hW⟩ : ∃ W, W = (w.alloc (.cells #[.int .i64 (n : Int), v] 34)).alloc (.cells #[.int .i64 0, .slice none 0 0] 34) := ⟨_, rfl⟩
  have r0 : W.heap[w.heap.size]? = some (.cells (ee (n : Int) v) 34 (0, 0)) := by rw [hW]; exact heap_alloc2_old w _ _
  have r1 : W.heap[w.heap.size + 1]? = some (.cells (ee 0 (.slice none 0 0)) 34 (0, 0)) := by
    rw [hW]
    have := heap_alloc_new (w.alloc (.cells #[.int .i64 (n : Int), v] 34)) (.cells #[.int .i64 0, .slice none 0 0] 34)
    simpa [ee] using this
  have hB : Below w.heap.size w W := by rw [hW]; exact ((Below.refl _ _).alloc (Nat.le_refl _) _).alloc (by simp) _
  have hz2' : W.heap.size = w.heap.size + 2 := by rw [hW]; simp
  have q := leaf_spec W s (by omega)
  have HS : Hid (Sl W v (ss hs)) := h.later hB
  have HR0 : Hid _ := r0
  have HR1 : Hid _ := r1
  have HB : Hid _ := hB
  have HZ : Hid _ := hz2'
  have HW : Hid _ := hW
  obtain ⟨ao, cap, rfl, hcap⟩ := h.form
  rw [ss_len] at *
  clear hW r0 r1 hB hz2' h
  have c6 : (ss []).length + (ss hs).length ≤ maxLen := by rw [ss_len, ss_len]; unfold maxLen; simp; omega
  have c7 : ((ss []).length + (ss hs).length) * 16 ≤ 140737488355328 := by rw [ss_len, ss_len]; simp; omega
  have hwn : IntKind.i64.wrap ((n : Int) + 1) = (n : Int) + 1 := by rw [IntKind.wrap_i64]; omega
  go_enter Tryd.func52, Tryd.ntmps52
  go_wp2_with fail
  rw [← HW.out]
  refine q.mono ?_
  rintro e w1 ⟨rfl, b1⟩
  have R0 : w1.heap[w.heap.size]? = some (.cells (ee (n : Int) (.slice ao hs.length cap)) 34 (0, 0)) := rowKeep HR0.out b1
  have R1 : w1.heap[w.heap.size + 1]? = some (.cells (ee 0 (.slice none 0 0)) 34 (0, 0)) := rowKeep HR1.out b1
  have B1 : Below w.heap.size w w1 := HB.out.trans (b1.mono (HB.out.size))
  have z1 : w.heap.size + 2 ≤ w1.heap.size := by have := b1.size; rw [HZ.out] at this; exact this
  have S1 : Sl w1 (.slice ao hs.length cap) (ss hs) := HS.out.later b1
  have k1 : ∀ o, (w1.alloc o).cell? ⟨w.heap.size, 1, none⟩ = some (.slice ao hs.length cap) := fun o => keepR (row_at R0 1) ((Below.refl _ _).alloc (Nat.le_refl _) o)
  have c8 : ∀ o, w.heap.size + 2 ≤ (w1.alloc o).heap.size := fun o => by simp; omega
  have HR0' : Hid _ := R0
  have HR1' : Hid _ := R1
  have HB1 : Hid _ := B1
  clear HR0 HR1 HB HW HS q b1 R0 R1 B1
  go_wp2_with (at_builtin; go_must (refine wpl_app _ rfl (.tmp 10) (.tmp 12) 24 rfl 9 i0 (.string ⟨#[]⟩) 16 Tryd.underlying24 hi hz0 hz1 hz2 rfl (w.heap.size + 2) _ _ rfl (emptyT w1 (w.heap.size + 2) z1) _ rfl (ss hs) (S1.later ((Below.refl _ _).alloc (Nat.le_refl _) _)) (ss_one hs) c6 c7 (c8 _) ?_))
  intro v2 w2 o2 b2 g2
  have o2 : Own w2 (w.heap.size + 2) w2.heap.size 9 v2 (ss hs) := o2
  have R0 : w2.heap[w.heap.size]? = some (.cells (ee (n : Int) (.slice ao hs.length cap)) 34 (0, 0)) := (b2.block _ (by omega)).trans ((heap_alloc_old w1 _ (by omega)).trans HR0'.out)
  have R1 : w2.heap[w.heap.size + 1]? = some (.cells (ee 0 (.slice none 0 0)) 34 (0, 0)) := (b2.block _ (by omega)).trans ((heap_alloc_old w1 _ (by omega)).trans HR1'.out)
  have B2 : Below w.heap.size w w2 := (HB1.out.alloc (by omega) _).trans (b2.mono (by omega))
  have k0 : w2.cell? ⟨w.heap.size, 0, none⟩ = some (.int .i64 (n : Int)) := row_at R0 0
  have HR0 : Hid _ := R0
  have HR1 : Hid _ := R1
  have HB : Hid _ := B2
  have HO : Hid _ := o2
  have z2 : w.heap.size + 2 ≤ w2.heap.size := by have := b2.size; have := c8 (.cells #[] 9); omega
  clear HR0' HR1' HB1 S1 k1 c8 R0 R1 B2 o2 g2 b2 z1
  go_wp2
  go_loopw [5, 6, 7] (fun a b c wr => ∃ (m : Nat) (q : List ByteArray) (x : ByteArray), a = .string x ∧ c = .int .i64 (m : Int) ∧ m ≤ n ∧ Hid (carry m q x = carry n hs (leafH s)) ∧ Hid (q.length = popc m) ∧ Hid ((∀ t ∈ q, t.size = 32) ∧ x.size = 32) ∧ Hid (Own wr (w.heap.size + 2) wr.heap.size 9 b (ss q)) ∧ Hid (wr.heap[w.heap.size]? = some (.cells (ee (n : Int) (.slice ao hs.length cap)) 34 (0, 0))) ∧ Hid (wr.heap[w.heap.size + 1]? = some (.cells (ee 0 (.slice none 0 0)) 34 (0, 0))) ∧ Hid (Below w.heap.size w wr)) (fun _ _ c _ => (intOf c).toNat)
  case atStart => exact ⟨n, hs, leafH s, rfl, rfl, Nat.le_refl _, rfl, HPP, ⟨hz, leafH_size s⟩, HO, HR0, HR1, HB⟩
  case round =>
    obtain ⟨m, q, x, rfl, rfl, hm, HC, HP, HX, HOr, HR0r, HR1r, HBr⟩ := hrel
    have ha := and_one ⟨m, by omega⟩
    have hq8 := popc_le ⟨m, by omega⟩
    simp only at ha hq8
    clear HO HR0 HR1 HB k0 hz HPP
    by_cases hodd : m % 2 = 1
    · rw [hodd] at ha
      obtain ⟨g, q', rfl⟩ : ∃ g q', q = q' ++ [g] := by
        rcases List.eq_nil_or_concat q with rfl | ⟨q', g, rfl⟩
        · have := HP.out
          rw [popc_step (by omega), hodd] at this
          simp at this
          omega
        · exact ⟨g, q', by simp⟩
      obtain ⟨b, off, cp, L, rfl, hL1, hL2, hcp, cL, sL⟩ := slLast HOr.out.sl
      have HC' : Hid (carry (m / 2) q' (nodeH g x) = carry n hs (leafH s)) := by show _ = _; rw [← HC.out, carry_odd hodd]
      have HP' : Hid (q'.length = popc (m / 2)) := by
        have := HP.out
        rw [popc_step (by omega), hodd, List.length_append] at this
        show _ = _
        simp at this
        omega
      have HX' : Hid ((∀ t ∈ q', t.size = 32) ∧ (nodeH g x).size = 32) := ⟨fun t ht => HX.out.1 t (by simp [ht]), nodeH_size _ _⟩
      have hg := HX.out.1 g (by simp)
      have hx := HX.out.2
      have HF : Hid (Own wr (w.heap.size + 2) wr.heap.size 9 (.slice (some ⟨b, off, none⟩) (L - 1) cp) (ss q')) := by
        show Own _ _ _ _ _ _
        have := HOr.out.front (L - 1) (by rw [ss_len, List.length_append]; simp; omega) (by simp)
        rw [ss_take, show (q' ++ [g]).take (L - 1) = q' by rw [show L - 1 = q'.length by omega]; simp] at this
        exact this
      have qn : ∀ W, _ := fun W => node_spec W g x (by omega) (by omega)
      have hLb : q'.length ≤ 8 := by have := HP.out; rw [List.length_append] at this; simp at this; omega
      have e0 : (1 : Int) ≤ (L : Int) := by omega
      have e1 : (L : Int) - 1 < (L : Int) := by omega
      have e2 : (L : Int) - 1 ≤ (cp : Int) := by omega
      have e3 : (0 : Int) ≤ (L : Int) - 1 := by omega
      have dn : ((L : Int) - 1).toNat = L - 1 := by omega
      have hwr : IntKind.i64.wrap ((L : Int) - 1) = (L : Int) - 1 := by rw [IntKind.wrap_i64]; omega
      have hm2 : m / 2 ≤ n := by omega
      obtain ⟨y, hy⟩ : ∃ y, nodeH g x = y := ⟨_, rfl⟩
      simp only [hy] at qn HC' HX'
      clear HC HP HX HOr sL hg hx hy hL1 hL2 hLb
      go_wp2_with fail
      refine (qn _).mono ?_
      rintro e w3 ⟨rfl, b3⟩
      have HF3 : Hid (Own w3 (w.heap.size + 2) w3.heap.size 9 (.slice (some ⟨b, off, none⟩) (L - 1) cp) (ss q')) := (HF.out.later b3 (Nat.le_refl _)).mono (Nat.le_refl _) b3.size
      have HR03 : Hid (w3.heap[w.heap.size]? = some (.cells (ee (n : Int) (.slice ao hs.length cap)) 34 (0, 0))) := rowKeep HR0r.out b3
      have HR13 : Hid (w3.heap[w.heap.size + 1]? = some (.cells (ee 0 (.slice none 0 0)) 34 (0, 0))) := rowKeep HR1r.out b3
      have HB3 : Hid (Below w.heap.size w w3) := HBr.out.trans (b3.mono HBr.out.size)
      clear HF HR0r HR1r HBr qn b3 cL
      go_wp2
      go_roundw
      case rel => exact ⟨m / 2, q', y, rfl, by go_num, hm2, HC', HP', HX', HF3, HR03, HR13, HB3⟩
      case measure => simp [intOf]; omega
    · have h0 : m % 2 = 0 := by omega
      rw [h0] at ha
      have HN : Hid (carry n hs (leafH s) = q ++ [x]) := by show _ = _; rw [← HC.out, carry_even hodd]
      have k0 : wr.cell? ⟨w.heap.size, 0, none⟩ = some (.int .i64 (n : Int)) := row_at HR0r.out 0
      have hqb : q.length ≤ 8 := by have := HP.out; omega
      have c6' : (ss q).length + 1 ≤ maxLen := by rw [ss_len]; unfold maxLen; omega
      have c7' : ((ss q).length + 1) * 16 ≤ 140737488355328 := by rw [ss_len]; omega
      have zr : w.heap.size + 2 ≤ wr.heap.size := by
        have h1 := HR1r.out
        have h2 := (Array.getElem?_eq_some_iff.1 h1).1
        omega
      obtain ⟨aor, Lr, capr, rfl, hr1, hr2⟩ := HOr.out.form
      clear HC HP HX h0 hodd hqb hr1 hr2
      go_wp2_with fail
      refine wp_region_held_drew (S := fun w' => w'.cell? ⟨w.heap.size, 0, none⟩ = some (.int .i64 (n : Int))) (by kernel_rfl) k0 (fun hHeld => ?_)
      (refine wpAnyH_take (i := 0) (v := ?v0x1) rfl (by kernel_rfl) (by kernel_rfl) (by kernel_rfl) (fun _ _ _ h => h) (Or.inl ⟨by rfl, ?hy0x1⟩) (by assumption) ?rest0x1; case hy0x1 => (intro w hSw; (try dsimp only at hSw); go_split_ands; go_simp; (try with_reducible rfl)))
      try simp only [Act.put, List.setIfInBounds_toArray, List.set_cons_zero, List.set_cons_succ, List.getElem_toArray, List.getElem_cons_zero, List.getElem_cons_succ]
      (refine wpAnyH_take (i := 1) (v := ?v1x2) rfl (by kernel_rfl) (by kernel_rfl) (by kernel_rfl) (fun _ _ _ h => h) (Or.inl ⟨by rfl, ?hy1x2⟩) (by assumption) ?rest1x2; case hy1x2 => (intro w hSw; (try dsimp only at hSw); go_split_ands; go_simp; (try with_reducible rfl)))
      try simp only [Act.put, List.setIfInBounds_toArray, List.set_cons_zero, List.set_cons_succ, List.getElem_toArray, List.getElem_cons_zero, List.getElem_cons_succ]
      (refine wpAnyH_take (i := 2) (v := ?v2x3) rfl (by kernel_rfl) (by kernel_rfl) (by kernel_rfl) (fun _ _ _ h => h) (Or.inl ⟨by rfl, ?hy2x3⟩) (by assumption) ?rest2x3; case hy2x3 => (intro w hSw; (try dsimp only at hSw); go_split_ands; go_simp; (try with_reducible rfl)))
      try simp only [Act.put, List.setIfInBounds_toArray, List.set_cons_zero, List.set_cons_succ, List.getElem_toArray, List.getElem_cons_zero, List.getElem_cons_succ]
      (refine wpAnyH_take (i := 3) (v := ?v3x4) rfl (by kernel_rfl) (by kernel_rfl) (by kernel_rfl) (fun _ _ _ h => h) (Or.inl ⟨by rfl, ?hy3x4⟩) (by assumption) ?rest3x4; case hy3x4 => (intro w hSw; (try dsimp only at hSw); go_split_ands; go_simp; (try with_reducible rfl)))
      try simp only [Act.put, List.setIfInBounds_toArray, List.set_cons_zero, List.set_cons_succ, List.getElem_toArray, List.getElem_cons_zero, List.getElem_cons_succ]
      (refine wpAnyH_take (i := 4) (v := ?v4x5) rfl (by kernel_rfl) (by kernel_rfl) (by kernel_rfl) (fun _ _ _ h => h) (Or.inl ⟨by rfl, ?hy4x5⟩) (by assumption) ?rest4x5; case hy4x5 => (intro w hSw; (try dsimp only at hSw); go_split_ands; go_simp; (try with_reducible rfl)))
      try simp only [Act.put, List.setIfInBounds_toArray, List.set_cons_zero, List.set_cons_succ, List.getElem_toArray, List.getElem_cons_zero, List.getElem_cons_succ]
      refine wpAnyH_ready (rs := [5]) (by kernel_rfl) (by simp) ?_
      refine AllReadyH.cons rfl (fun K hK => ?_) AllReadyH.nil
      go_simp
      refine hK.out _ _ (keepR (W := wr.drew) hHeld ((Below.refl _ _).alloc (Nat.le_refl _) _)) (fun hHeld => ?_)
      clear hK K
      try simp only [Act.put, List.setIfInBounds_toArray, List.set_cons_zero, List.set_cons_succ, List.getElem_toArray, List.getElem_cons_zero, List.getElem_cons_succ]
      refine wpAnyH_ready (rs := [6]) (by kernel_rfl) (by simp) ?_
      refine AllReadyH.cons rfl (fun K hK => ?_) AllReadyH.nil
      refine step_app (by rfl) (.tmp 37) (.tmp 39) 24 (by rfl) 9 i0 (.string ⟨#[]⟩) 16 Tryd.underlying24 hi hz0 hz1 hz2 rfl (w.heap.size + 2) _ _ (by rfl) (Own.alloc (w := wr.drew) HOr.out _) _ (by rfl) [.string x] (Laws.Sl.one _ _ _) (oneT _) c6' c7' (by show _ ≤ (wr.heap.push _).size; rw [Array.size_push]; omega) ?_
      intro v5 w5 o5 b5
      refine hK.out _ _ ((b5.cell (by show w.heap.size < w.heap.size + 2; omega)).trans hHeld) (fun hHeld => ?_)
      clear hK K
      try simp only [Act.put, List.setIfInBounds_toArray, List.set_cons_zero, List.set_cons_succ, List.getElem_toArray, List.getElem_cons_zero, List.getElem_cons_succ]
      have o5 : Own w5 (w.heap.size + 2) w5.heap.size 9 v5 (ss (q ++ [x])) := by rw [ss_app]; exact o5
      obtain ⟨ao5, L5, cap5, rfl, _, _⟩ := o5.form
      (refine wpAnyH_take (i := 7) (v := ?v7x6) rfl (by kernel_rfl) (by kernel_rfl) (by kernel_rfl) (fun _ _ _ h => h) (Or.inl ⟨by rfl, ?hy7x6⟩) (by assumption) ?rest7x6; case hy7x6 => (intro w hSw; (try dsimp only at hSw); go_split_ands; go_simp; (try with_reducible rfl)))
      try simp only [Act.put, List.setIfInBounds_toArray, List.set_cons_zero, List.set_cons_succ, List.getElem_toArray, List.getElem_cons_zero, List.getElem_cons_succ]
      have J1 : w5.heap[w.heap.size + 1]? = some (.cells (ee 0 (.slice none 0 0)) 34 (0, 0)) := (b5.block (w.heap.size + 1) (by omega)).trans ((heap_alloc_old wr.drew _ (by show _ < wr.heap.size; omega)).trans HR1r.out)
      have JB : Below w.heap.size w w5 := ((Below.drew HBr.out).alloc (by show _ ≤ wr.heap.size; omega) _).trans (b5.mono (by omega))
      have hne : w.heap.size ≠ w.heap.size + 1 := by omega
      refine wpAnyH_ready (rs := [8]) (by kernel_rfl) (by simp) ?_
      refine AllReadyH.cons rfl (fun K hK => ?_) AllReadyH.nil
      rw [if_pos (by rfl)]
      refine wp_store_row 34 _ _ rfl (w.heap.size + 1) (ee ((n : Int) + 1) (.slice ao5 L5 cap5)) rfl rfl 34 _ J1 (sizeEd _ _) rfl (oneEd _ (Own.one (by assumption))) ?_
      refine hK.out _ _ (cell_row (by exact hne) hHeld) (fun hHeld => ?_)
      clear hK K
      try simp only [Act.put, List.setIfInBounds_toArray, List.set_cons_zero, List.set_cons_succ, List.getElem_toArray, List.getElem_cons_zero, List.getElem_cons_succ]
      refine wpAnyH_done (by kernel_rfl) ?_ _
      clear hHeld
      go_wp2
      refine bodyPost_ret (v := .agg (ee ((n : Int) + 1) (.slice ao5 L5 cap5))) (results_cell_row rfl _ _ (w.heap.size + 1) 34 _ (0, 0) _ rfl (setRow_heap _ _ _ _ _ (0, 0) J1) Tryd.underlying34 rfl (sizeEd _ _)) rfl ⟨_, rfl, ?_, below_setRow JB (by omega) _⟩
      rw [HN.out]
      exact (o5.setRow _ (by omega)).mono (by omega) (by simp)

end Go.Proofs.YthbonifpdpknnaaDoor.Ed
