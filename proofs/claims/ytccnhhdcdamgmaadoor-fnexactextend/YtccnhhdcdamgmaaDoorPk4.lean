/- Texts in one: LhN. -/
import Derived.Test.YtccnhhdcdamgmaaDoorPk3
import Derived.Test.YtccnhhdcdamgmaaDoorNth
/- Chapter 11, the landed code: the log of texts; a new one. -/
namespace Go.Proofs.YtccnhhdcdamgmaaDoor.Lg
open Go.RowKit Go.Proofs.YtccnhhdcdamgmaaDoor.Mem Go.Proofs.YtccnhhdcdamgmaaDoor.Laws Go.Proofs.YtccnhhdcdamgmaaDoor.Bytes Go.Proofs.YtccnhhdcdamgmaaDoor.Sha Go.Proofs.YtccnhhdcdamgmaaDoor.Tr Go.Proofs.YtccnhhdcdamgmaaDoor.He
set_option linter.unusedVariables false
set_option linter.unusedSimpArgs false

set_option maxRecDepth 1000000 in
set_option maxHeartbeats 2000000 in
/-- the log of texts: it keeps the list that it is handed -/
theorem logof_impl (w : World) (v : Value) (l : List ByteArray) (hG : Glob w) (hs : Sl w v (ss l)) (hl : l.length ≤ 1000000000000) (hz : ∀ s ∈ l, s.size ≤ 10000000000) :
    Calls Tryd.prog 76 #[v] w fun e w' => e = .returned (.agg #[v, .int .i64 (headOf l).n, .string (headOf l).r]) ∧ Below w.heap.size w w' := by
  have HS : Hid (Sl w v (ss l)) := hs
  have HG : Hid (Glob w) := hG
  obtain ⟨ao, cap, rfl, hcap⟩ := hs.form
  rw [ss_len] at *
  clear hs hG
  have B0 : Hid (Below w.heap.size w w) := Below.refl _ _
  obtain ⟨W1, HW1, b1, y1, hS1, r_res1⟩ : ∃ X, Hid ((w.alloc (.cells #[.slice none 0 0, .int .i64 0, .string ⟨#[]⟩] 28)) = X) ∧ Below w.heap.size w X ∧ w.heap.size + 1 ≤ X.heap.size ∧ Hid (X.heap.size = w.heap.size + 1) ∧ Hid (X.heap[w.heap.size]? = some (.cells #[.slice none 0 0, .int .i64 0, .string ⟨#[]⟩] 28 (0, 0))) := ⟨_, rfl, ((Below.refl _ _).alloc (Nat.le_refl _) _), by simp, by show _ = _; simp, (by show _ = _; exact alloc_nth1_0 w _)⟩
  have z1 : w.heap.size ≤ W1.heap.size := b1.size
  have B1 : Hid (Below w.heap.size w W1) := B0.out.trans (b1.mono B0.out.size)
  have c_res1_0 : W1.cell? ⟨w.heap.size, 0, none⟩ = some (.slice none 0 0) := row_at r_res1.out 0
  have c_res1_1 : W1.cell? ⟨w.heap.size, 1, none⟩ = some (.int .i64 0) := row_at r_res1.out 1
  have c_res1_2 : W1.cell? ⟨w.heap.size, 2, none⟩ = some (.string ⟨#[]⟩) := row_at r_res1.out 2
  have q : ∀ W v1, Glob W → Sl W v1 (ss l) → _ := fun W v1 h0 h1 => headOf_impl W v1 l h0 h1 hl hz
  obtain ⟨M, hM⟩ : ∃ M, headOf l = M := ⟨_, rfl⟩
  simp only [hM] at q
  rw [hM]
  clear hM hz
  go_enter Tryd.func76, Tryd.ntmps76
  go_wp2_with fail
  rw [HW1.out]
  refine (q W1 _ (HG.out.later B1.out) (HS.out.later B1.out)).mono ?_
  rintro e W2 ⟨rfl, b2⟩
  have z2 : W1.heap.size ≤ W2.heap.size := b2.size
  have B2 : Hid (Below w.heap.size w W2) := B1.out.trans (b2.mono B1.out.size)
  have r_res2 : Hid (W2.heap[w.heap.size]? = some (.cells #[.slice none 0 0, .int .i64 0, .string ⟨#[]⟩] 28 (0, 0))) := rowKeep r_res1.out b2
  have c_res2_0 : W2.cell? ⟨w.heap.size, 0, none⟩ = some (.slice none 0 0) := row_at r_res2.out 0
  have c_res2_1 : W2.cell? ⟨w.heap.size, 1, none⟩ = some (.int .i64 0) := row_at r_res2.out 1
  have c_res2_2 : W2.cell? ⟨w.heap.size, 2, none⟩ = some (.string ⟨#[]⟩) := row_at r_res2.out 2
  clear r_res1 c_res1_0 c_res1_1 c_res1_2
  go_wp2_with (refine wpList_store_row rfl 28 _ _ rfl (w.heap.size) (lc (.slice ao l.length cap) M) rfl rfl 28 _ r_res2.out (sizeL _ _) rfl (oneL _ rfl) ?_)
  refine bodyPost_ret (v := .agg (lc (.slice ao l.length cap) M)) (results_cell_row rfl _ _ (w.heap.size) 28 _ (0, 0) _ rfl (setRow_heap _ _ _ _ _ (0, 0) r_res2.out) Tryd.underlying28 rfl (sizeL _ _)) rfl ⟨rfl, below_setRow B2.out (by omega) _⟩

set_option maxRecDepth 1000000 in
set_option maxHeartbeats 2000000 in
theorem lognew_impl (w : World) (hG : Glob w) :
    Calls Tryd.prog 27 #[] w fun e w' => ∃ v', e = .returned (.agg #[v', .int .i64 (headOf []).n, .string (headOf []).r]) ∧ Own w' w.heap.size w'.heap.size 9 v' (ss []) ∧ Below w.heap.size w w' := by
  have HG : Hid (Glob w) := hG
  clear hG
  have B0 : Hid (Below w.heap.size w w) := Below.refl _ _
  obtain ⟨W1, HW1, b1, y1, hS1, r_res1⟩ : ∃ X, Hid ((w.alloc (.cells #[.slice none 0 0, .int .i64 0, .string ⟨#[]⟩] 28)) = X) ∧ Below w.heap.size w X ∧ w.heap.size + 1 ≤ X.heap.size ∧ Hid (X.heap.size = w.heap.size + 1) ∧ Hid (X.heap[w.heap.size]? = some (.cells #[.slice none 0 0, .int .i64 0, .string ⟨#[]⟩] 28 (0, 0))) := ⟨_, rfl, ((Below.refl _ _).alloc (Nat.le_refl _) _), by simp, by show _ = _; simp, (by show _ = _; exact alloc_nth1_0 w _)⟩
  have z1 : w.heap.size ≤ W1.heap.size := b1.size
  have B1 : Hid (Below w.heap.size w W1) := B0.out.trans (b1.mono B0.out.size)
  have c_res1_0 : W1.cell? ⟨w.heap.size, 0, none⟩ = some (.slice none 0 0) := row_at r_res1.out 0
  have c_res1_1 : W1.cell? ⟨w.heap.size, 1, none⟩ = some (.int .i64 0) := row_at r_res1.out 1
  have c_res1_2 : W1.cell? ⟨w.heap.size, 2, none⟩ = some (.string ⟨#[]⟩) := row_at r_res1.out 2
  have q : ∀ W, Glob W → _ := fun W h0 => logof_impl W (.slice none 0 0) [] h0 (Sl.nil W) (Nat.zero_le _) (fun s hs => by cases hs)
  obtain ⟨M, hM⟩ : ∃ M, headOf [] = M := ⟨_, rfl⟩
  simp only [hM] at q
  rw [hM]
  clear hM
  go_enter Tryd.func27, Tryd.ntmps27
  go_wp2_with fail
  rw [HW1.out]
  refine (q W1 (HG.out.later B1.out)).mono ?_
  rintro e W2 ⟨rfl, b2⟩
  have z2 : W1.heap.size ≤ W2.heap.size := b2.size
  have B2 : Hid (Below w.heap.size w W2) := B1.out.trans (b2.mono B1.out.size)
  have r_res2 : Hid (W2.heap[w.heap.size]? = some (.cells #[.slice none 0 0, .int .i64 0, .string ⟨#[]⟩] 28 (0, 0))) := rowKeep r_res1.out b2
  have c_res2_0 : W2.cell? ⟨w.heap.size, 0, none⟩ = some (.slice none 0 0) := row_at r_res2.out 0
  have c_res2_1 : W2.cell? ⟨w.heap.size, 1, none⟩ = some (.int .i64 0) := row_at r_res2.out 1
  have c_res2_2 : W2.cell? ⟨w.heap.size, 2, none⟩ = some (.string ⟨#[]⟩) := row_at r_res2.out 2
  clear r_res1 c_res1_0 c_res1_1 c_res1_2
  go_wp2_with (refine wpList_store_row rfl 28 _ _ rfl (w.heap.size) (lc (.slice none 0 0) M) rfl rfl 28 _ r_res2.out (sizeL _ _) rfl (oneL _ rfl) ?_)
  refine bodyPost_ret (v := .agg (lc (.slice none 0 0) M)) (results_cell_row rfl _ _ (w.heap.size) 28 _ (0, 0) _ rfl (setRow_heap _ _ _ _ _ (0, 0) r_res2.out) Tryd.underlying28 rfl (sizeL _ _)) rfl ⟨.slice none 0 0, rfl, Own.none9 _ _ _, below_setRow B2.out (by omega) _⟩

end Go.Proofs.YtccnhhdcdamgmaaDoor.Lg
