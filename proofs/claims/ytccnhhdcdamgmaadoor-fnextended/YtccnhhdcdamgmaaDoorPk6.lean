/- Texts in one: EsB, LhO. -/
import Derived.Test.YtccnhhdcdamgmaaDoorPk5
import Derived.Test.YtccnhhdcdamgmaaDoorPk3
import Derived.Test.YtccnhhdcdamgmaaDoorNth
import Derived.StillTailTactics
/- Chapter 7, the landed code: a stack of texts behind a pointer; its methods; copies; what is carried. -/
namespace Go.Proofs.YtccnhhdcdamgmaaDoor.Ed
open Go.RowKit Go.Proofs.YtccnhhdcdamgmaaDoor.Mem Go.Proofs.YtccnhhdcdamgmaaDoor.Laws Go.Proofs.YtccnhhdcdamgmaaDoor.Bytes Go.Proofs.YtccnhhdcdamgmaaDoor.Sha Go.Proofs.YtccnhhdcdamgmaaDoor.Tr
set_option linter.unusedVariables false
set_option linter.unusedSimpArgs false

set_option maxRecDepth 1000000 in
set_option maxHeartbeats 2000000 in
theorem texts_impl (w : World) (v : Value) (hs : List ByteArray) (h : Sl w v (ss hs)) (hl : hs.length ≤ 1000000000) (hz : ∀ s ∈ hs, s.size ≤ 1000000000000) :
    Calls Tryd.prog 84 #[v] w fun e w' => ∃ v', e = .returned v' ∧ Own w' w.heap.size w'.heap.size 9 v' (ss hs) ∧ Below w.heap.size w w' := by
  obtain ⟨i0, hi, hz0, hz1, hz2⟩ := info_parts info9t
  have HS : Hid (Sl w v (ss hs)) := h
  have HZ : Hid (∀ s ∈ hs, s.size ≤ 1000000000000) := hz
  obtain ⟨ao, cap, rfl, hcap⟩ := h.form
  rw [ss_len] at *
  clear hz h
  go_enter Tryd.func84, Tryd.ntmps84
  go_wp2
  go_loopw [3, 8] (fun o i wr => ∃ k : Nat, k ≤ hs.length ∧ i = .int .i64 (k : Int) ∧ Own wr w.heap.size wr.heap.size 9 o (ss (hs.take k)) ∧ Below w.heap.size w wr) (fun _ i _ => hs.length - (intOf i).toNat)
  case atStart => exact ⟨0, Nat.zero_le _, rfl, nil9 _ _ _, Below.refl _ _⟩
  case round =>
    obtain ⟨k, hk, rfl, ho, hB⟩ := hrel
    by_cases hlt : k < hs.length
    · obtain ⟨s, hs0⟩ : ∃ s, hs[k]? = some s := ⟨hs[k], by simp⟩
      have hlt' : (k : Int) < (hs.length : Int) := by omega
      obtain ⟨b, off, rfl, hcell⟩ : ∃ b off, ao = some ⟨b, off, none⟩ ∧ wr.cell? ⟨b, off + k, none⟩ = some (.string s) := by
        obtain ⟨ao', c', he, _, _, hr⟩ := HS.out.later hB
        rw [ss_len] at he hr
        simp only [Value.slice.injEq] at he
        obtain ⟨rfl, _, rfl⟩ := he
        obtain ⟨b, off, he, hc⟩ := hr (by omega)
        exact ⟨b, off, he, by rw [hc k hlt]; simp [ss, hs0]⟩
      have q := Cln.clone_impl wr s (HZ.out s (List.mem_of_getElem? hs0))
      have HT : Hid (hs.take (k + 1) = hs.take k ++ [s]) := by show _ = _; rw [List.take_add_one, hs0]; rfl
      have hln : (hs.take k).length = k := by simp; omega
      have c6 : (ss (hs.take k)).length + 1 ≤ maxLen := by rw [ss_len, hln]; unfold maxLen; omega
      have c7 : ((ss (hs.take k)).length + 1) * 16 ≤ 140737488355328 := by rw [ss_len, hln]; omega
      clear hs0 hln
      go_wp2_with fail
      refine q.mono ?_
      rintro e w1 ⟨rfl, b1⟩
      have B1 : Below w.heap.size w w1 := hB.trans (b1.mono hB.size)
      have o1 : ∀ o, Own (w1.alloc o) w.heap.size (w1.alloc o).heap.size 9 _ (ss (hs.take k)) := fun o => Own.alloc ((ho.later b1 (Nat.le_refl _)).mono (Nat.le_refl _) b1.size) o
      have c8 : ∀ o, w.heap.size ≤ (w1.alloc o).heap.size := fun o => by have := B1.size; simp; omega
      clear q b1 ho hB
      go_wp2_with (at_builtin; go_must (refine wpl_app _ rfl (.tmp 12) (.tmp 15) 24 rfl 9 i0 (.string ⟨#[]⟩) 16 Tryd.underlying24 hi hz0 hz1 hz2 rfl w.heap.size _ (ss (hs.take k)) rfl (o1 _) _ rfl [.string s] (Laws.Sl.one _ _ _) (oneT _) c6 c7 (c8 _) ?_); intro v5 w5 o5 b5 g5)
      have o6 : Own w5 w.heap.size w5.heap.size 9 v5 (ss (hs.take (k + 1))) := by rw [HT.out, ss_app]; exact o5
      have B5 : Below w.heap.size w w5 := (B1.alloc B1.size _).trans b5
      clear o1 o5 b5 g5 c6 c7 c8 B1
      go_roundw
      case rel => exact ⟨k + 1, by omega, by go_num, o6, B5⟩
      case measure => simp [intOf]; omega
    · have hlt' : ¬ (k : Int) < (hs.length : Int) := by omega
      rw [List.take_of_length_le (show hs.length ≤ k by omega)] at ho
      go_wp2
      go_ret
      exact ⟨_, rfl, ho, hB⟩

end Go.Proofs.YtccnhhdcdamgmaaDoor.Ed

/- Chapter 11, the landed code: a copy of a log. -/
namespace Go.Proofs.YtccnhhdcdamgmaaDoor.Lg
open Go.RowKit Go.Proofs.YtccnhhdcdamgmaaDoor.Mem Go.Proofs.YtccnhhdcdamgmaaDoor.Laws Go.Proofs.YtccnhhdcdamgmaaDoor.Bytes Go.Proofs.YtccnhhdcdamgmaaDoor.Sha Go.Proofs.YtccnhhdcdamgmaaDoor.Tr Go.Proofs.YtccnhhdcdamgmaaDoor.He
set_option linter.unusedVariables false
set_option linter.unusedSimpArgs false


set_option maxRecDepth 1000000 in
set_option maxHeartbeats 4000000 in
theorem ownlog_impl (w : World) (v : Value) (l : List ByteArray) (h : Hd) (hs : Sl w v (ss l)) (hl : l.length ≤ 1000000000) (hz : ∀ s ∈ l, s.size ≤ 1000000000000) (hh : h.r.size ≤ 1000000000000) :
    Calls Tryd.prog 56 #[.agg #[v, .int .i64 h.n, .string h.r]] w fun e w' => ∃ v', e = .returned (.agg #[v', .int .i64 h.n, .string h.r]) ∧ Own w' w.heap.size w'.heap.size 9 v' (ss l) ∧ Below w.heap.size w w' := by
  have HS : Hid (Sl w v (ss l)) := hs
  obtain ⟨ao, cap, rfl, hcap⟩ := hs.form
  rw [ss_len] at *
  clear hs
  have B0 : Hid (Below w.heap.size w w) := Below.refl _ _
  obtain ⟨W1, HW1, b1, y1, hS1, r_a1, r_res1⟩ : ∃ X, Hid (((w.alloc (.cells #[.slice ao l.length cap, .int .i64 h.n, .string h.r] 28)).alloc (.cells #[.slice none 0 0, .int .i64 0, .string ⟨#[]⟩] 28)) = X) ∧ Below w.heap.size w X ∧ w.heap.size + 2 ≤ X.heap.size ∧ Hid (X.heap.size = w.heap.size + 1 + 1) ∧ Hid (X.heap[w.heap.size]? = some (.cells #[.slice ao l.length cap, .int .i64 h.n, .string h.r] 28 (0, 0))) ∧ Hid (X.heap[w.heap.size + 1]? = some (.cells #[.slice none 0 0, .int .i64 0, .string ⟨#[]⟩] 28 (0, 0))) := ⟨_, rfl, (((Below.refl _ _).alloc (Nat.le_refl _) _).alloc (by simp) _), by simp, by show _ = _; simp, (by show _ = _; exact alloc_nth2_0 w _ _), (by show _ = _; exact alloc_nth2_1 w _ _)⟩
  have z1 : w.heap.size ≤ W1.heap.size := b1.size
  have B1 : Hid (Below w.heap.size w W1) := B0.out.trans (b1.mono B0.out.size)
  have c_a1_0 : W1.cell? ⟨w.heap.size, 0, none⟩ = some (.slice ao l.length cap) := row_at r_a1.out 0
  have c_a1_1 : W1.cell? ⟨w.heap.size, 1, none⟩ = some (.int .i64 h.n) := row_at r_a1.out 1
  have c_a1_2 : W1.cell? ⟨w.heap.size, 2, none⟩ = some (.string h.r) := row_at r_a1.out 2
  have c_res1_0 : W1.cell? ⟨w.heap.size + 1, 0, none⟩ = some (.slice none 0 0) := row_at r_res1.out 0
  have c_res1_1 : W1.cell? ⟨w.heap.size + 1, 1, none⟩ = some (.int .i64 0) := row_at r_res1.out 1
  have c_res1_2 : W1.cell? ⟨w.heap.size + 1, 2, none⟩ = some (.string ⟨#[]⟩) := row_at r_res1.out 2
  have q1 : ∀ W v1, Sl W v1 (ss l) → _ := fun W v1 h1 => Ed.texts_impl W v1 l h1 hl hz
  have q2 : ∀ W, _ := fun W => own_impl W h hh
  clear hz
  go_enter Tryd.func56, Tryd.ntmps56
  go_wp2_with fail
  rw [HW1.out]
  refine wp_region_held_drew (S := fun w' => w'.cell? ⟨w.heap.size, 0, none⟩ = some (.slice ao l.length cap) ∧ w'.cell? ⟨w.heap.size, 1, none⟩ = some (.int .i64 h.n) ∧ w'.cell? ⟨w.heap.size, 2, none⟩ = some (.string h.r)) (by kernel_rfl) ⟨c_a1_0, c_a1_1, c_a1_2⟩ (fun hHeld => ?_)
  (refine wpAnyH_take (i := 0) (v := ?v0x1) rfl (by kernel_rfl) (by kernel_rfl) (by kernel_rfl) (fun _ _ _ h => h) (Or.inl ⟨by rfl, ?hy0x1⟩) (by assumption) ?rest0x1; case hy0x1 => (intro w hSw; (try dsimp only at hSw); go_split_ands; go_simp; (try with_reducible rfl)))
  try simp only [Act.put, List.setIfInBounds_toArray, List.set_cons_zero, List.set_cons_succ, List.getElem_toArray, List.getElem_cons_zero, List.getElem_cons_succ]
  (refine wpAnyH_take (i := 1) (v := ?v1x2) rfl (by kernel_rfl) (by kernel_rfl) (by kernel_rfl) (fun _ _ _ h => h) (Or.inl ⟨by rfl, ?hy1x2⟩) (by assumption) ?rest1x2; case hy1x2 => (intro w hSw; (try dsimp only at hSw); go_split_ands; go_simp; (try with_reducible rfl)))
  try simp only [Act.put, List.setIfInBounds_toArray, List.set_cons_zero, List.set_cons_succ, List.getElem_toArray, List.getElem_cons_zero, List.getElem_cons_succ]
  (refine wpAnyH_take (i := 3) (v := ?v3x3) rfl (by kernel_rfl) (by kernel_rfl) (by kernel_rfl) (fun _ _ _ h => h) (Or.inl ⟨by rfl, ?hy3x3⟩) (by assumption) ?rest3x3; case hy3x3 => (intro w hSw; (try dsimp only at hSw); go_split_ands; go_simp; (try with_reducible rfl)))
  try simp only [Act.put, List.setIfInBounds_toArray, List.set_cons_zero, List.set_cons_succ, List.getElem_toArray, List.getElem_cons_zero, List.getElem_cons_succ]
  (refine wpAnyH_take (i := 4) (v := ?v4x4) rfl (by kernel_rfl) (by kernel_rfl) (by kernel_rfl) (fun _ _ _ h => h) (Or.inl ⟨by rfl, ?hy4x4⟩) (by assumption) ?rest4x4; case hy4x4 => (intro w hSw; (try dsimp only at hSw); go_split_ands; go_simp; (try with_reducible rfl)))
  try simp only [Act.put, List.setIfInBounds_toArray, List.set_cons_zero, List.set_cons_succ, List.getElem_toArray, List.getElem_cons_zero, List.getElem_cons_succ]
  refine wpAnyH_ready (rs := [2]) (by kernel_rfl) (by simp) ?_
  refine AllReadyH.cons rfl (fun K hK => ?_) AllReadyH.nil
  go_simp
  refine (q1 W1.drew _ (Sl.later (w := W1) (HS.out.later B1.out) (Below.drew (Below.refl _ _)))).mono ?_
  rintro e W2 ⟨v_s, rfl, o_s2, b2⟩
  have b2 : Below W1.heap.size W1 W2 := (Below.drew (Below.refl _ _)).trans b2
  refine hK.out _ _ ⟨(keepR (W := W1) hHeld.1 b2), (keepR (W := W1) hHeld.2.1 b2), (keepR (W := W1) hHeld.2.2 b2)⟩ (fun hHeld => ?_)
  clear hK K
  try simp only [Act.put, List.setIfInBounds_toArray, List.set_cons_zero, List.set_cons_succ, List.getElem_toArray, List.getElem_cons_zero, List.getElem_cons_succ]
  have o_s2 : Own W2 W1.heap.size W2.heap.size 9 _ _ := o_s2
  obtain ⟨ao_s, L_s, cap_s, rfl, hL_s, hM_s⟩ := o_s2.form
  have o_s2 : Hid (Own W2 W1.heap.size W2.heap.size 9 (.slice ao_s L_s cap_s) (ss l)) := o_s2
  clear hL_s hM_s
  have z2 : W1.heap.size ≤ W2.heap.size := b2.size
  have B2 : Hid (Below w.heap.size w W2) := B1.out.trans (b2.mono B1.out.size)
  have r_a2 : Hid (W2.heap[w.heap.size]? = some (.cells #[.slice ao l.length cap, .int .i64 h.n, .string h.r] 28 (0, 0))) := rowKeep r_a1.out b2
  have r_res2 : Hid (W2.heap[w.heap.size + 1]? = some (.cells #[.slice none 0 0, .int .i64 0, .string ⟨#[]⟩] 28 (0, 0))) := rowKeep r_res1.out b2
  have c_a2_0 : W2.cell? ⟨w.heap.size, 0, none⟩ = some (.slice ao l.length cap) := row_at r_a2.out 0
  have c_a2_1 : W2.cell? ⟨w.heap.size, 1, none⟩ = some (.int .i64 h.n) := row_at r_a2.out 1
  have c_a2_2 : W2.cell? ⟨w.heap.size, 2, none⟩ = some (.string h.r) := row_at r_a2.out 2
  have c_res2_0 : W2.cell? ⟨w.heap.size + 1, 0, none⟩ = some (.slice none 0 0) := row_at r_res2.out 0
  have c_res2_1 : W2.cell? ⟨w.heap.size + 1, 1, none⟩ = some (.int .i64 0) := row_at r_res2.out 1
  have c_res2_2 : W2.cell? ⟨w.heap.size + 1, 2, none⟩ = some (.string ⟨#[]⟩) := row_at r_res2.out 2
  clear r_a1 c_a1_0 c_a1_1 c_a1_2 r_res1 c_res1_0 c_res1_1 c_res1_2
  refine wpAnyH_ready (rs := [5]) (by kernel_rfl) (by simp) ?_
  refine AllReadyH.cons rfl (fun K hK => ?_) AllReadyH.nil
  go_simp
  refine (q2 W2).mono ?_
  rintro e W3 ⟨rfl, b3⟩
  refine hK.out _ _ ⟨(keepR (W := W2) hHeld.1 b3), (keepR (W := W2) hHeld.2.1 b3), (keepR (W := W2) hHeld.2.2 b3)⟩ (fun hHeld => ?_)
  clear hK K
  try simp only [Act.put, List.setIfInBounds_toArray, List.set_cons_zero, List.set_cons_succ, List.getElem_toArray, List.getElem_cons_zero, List.getElem_cons_succ]
  have z3 : W2.heap.size ≤ W3.heap.size := b3.size
  have B3 : Hid (Below w.heap.size w W3) := B2.out.trans (b3.mono B2.out.size)
  have r_a3 : Hid (W3.heap[w.heap.size]? = some (.cells #[.slice ao l.length cap, .int .i64 h.n, .string h.r] 28 (0, 0))) := rowKeep r_a2.out b3
  have r_res3 : Hid (W3.heap[w.heap.size + 1]? = some (.cells #[.slice none 0 0, .int .i64 0, .string ⟨#[]⟩] 28 (0, 0))) := rowKeep r_res2.out b3
  have o_s3 : Hid (Own W3 (W1.heap.size) (W2.heap.size) 9 (.slice ao_s L_s cap_s) (ss l)) := Own.later o_s2.out b3 (by omega)
  have c_a3_0 : W3.cell? ⟨w.heap.size, 0, none⟩ = some (.slice ao l.length cap) := row_at r_a3.out 0
  have c_a3_1 : W3.cell? ⟨w.heap.size, 1, none⟩ = some (.int .i64 h.n) := row_at r_a3.out 1
  have c_a3_2 : W3.cell? ⟨w.heap.size, 2, none⟩ = some (.string h.r) := row_at r_a3.out 2
  have c_res3_0 : W3.cell? ⟨w.heap.size + 1, 0, none⟩ = some (.slice none 0 0) := row_at r_res3.out 0
  have c_res3_1 : W3.cell? ⟨w.heap.size + 1, 1, none⟩ = some (.int .i64 0) := row_at r_res3.out 1
  have c_res3_2 : W3.cell? ⟨w.heap.size + 1, 2, none⟩ = some (.string ⟨#[]⟩) := row_at r_res3.out 2
  clear r_a2 c_a2_0 c_a2_1 c_a2_2 r_res2 c_res2_0 c_res2_1 c_res2_2 o_s2
  (refine wpAnyH_take (i := 6) (v := ?v6x5) rfl (by kernel_rfl) (by kernel_rfl) (by kernel_rfl) (fun _ _ _ h => h) (Or.inl ⟨by rfl, ?hy6x5⟩) (by assumption) ?rest6x5; case hy6x5 => (intro w hSw; (try dsimp only at hSw); go_split_ands; go_simp; (try with_reducible rfl)))
  try simp only [Act.put, List.setIfInBounds_toArray, List.set_cons_zero, List.set_cons_succ, List.getElem_toArray, List.getElem_cons_zero, List.getElem_cons_succ]
  refine wpAnyH_ready (rs := [7]) (by kernel_rfl) (by simp) ?_
  refine AllReadyH.cons rfl (fun K hK => ?_) AllReadyH.nil
  rw [if_pos (by rfl)]
  refine wp_store_row 28 _ _ rfl (w.heap.size + 1) (lc (.slice ao_s L_s cap_s) h) rfl rfl 28 _ r_res3.out (sizeL _ _) rfl (oneL _ rfl) ?_
  refine hK.out _ _ ⟨(cell_row (by show w.heap.size ≠ w.heap.size + 1; omega) hHeld.1), (cell_row (by show w.heap.size ≠ w.heap.size + 1; omega) hHeld.2.1), (cell_row (by show w.heap.size ≠ w.heap.size + 1; omega) hHeld.2.2)⟩ (fun hHeld => ?_)
  clear hK K
  refine wpAnyH_done (by kernel_rfl) ?_ _
  clear hHeld
  go_wp2
  refine bodyPost_ret (v := .agg (lc (.slice ao_s L_s cap_s) h)) (results_cell_row rfl _ _ (w.heap.size + 1) 28 _ (0, 0) _ rfl (setRow_heap _ _ _ _ _ (0, 0) r_res3.out) Tryd.underlying28 rfl (sizeL _ _)) rfl ⟨.slice ao_s L_s cap_s, rfl, (Own.setRow o_s3.out _ (by omega)).mono (by omega) (by rw [size_setRow]; omega), below_setRow B3.out (by omega) _⟩

end Go.Proofs.YtccnhhdcdamgmaaDoor.Lg
