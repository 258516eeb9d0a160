/- Texts in one: LhN, LhO, KpG, KpH. -/
import Derived.Test.YtfpaichdkddglabDoorPk26
import Derived.Test.YtfpaichdkddglabDoorPk11
import Derived.Test.YtfpaichdkddglabDoorPk12
import Derived.Test.YtfpaichdkddglabDoorPk20
import Derived.Test.YtfpaichdkddglabDoorPk25
import Derived.Test.YtfpaichdkddglabDoorPk21
/- Chapter 11, the landed code: the log of texts; a new one. -/
namespace Go.Proofs.YtfpaichdkddglabDoor.Lg
open Go.RowKit Go.Proofs.YtfpaichdkddglabDoor.Mem Go.Proofs.YtfpaichdkddglabDoor.Laws Go.Proofs.YtfpaichdkddglabDoor.Bytes Go.Proofs.YtfpaichdkddglabDoor.Sha Go.Proofs.YtfpaichdkddglabDoor.Tr Go.Proofs.YtfpaichdkddglabDoor.He
set_option linter.unusedVariables false
set_option linter.unusedSimpArgs false

set_option maxRecDepth 1000000 in
set_option maxHeartbeats 2000000 in
/-- the log of texts: it keeps the list that it is handed -/
theorem logof_impl (w : World) (v : Value) (l : List ByteArray) (hG : Glob w) (hs : Sl w v (ss l)) (hl : l.length ≤ 1000000000000) (hz : ∀ s ∈ l, s.size ≤ 10000000000) :
    Calls Tryd.prog 33 #[v] w fun e w' => e = .returned (.agg #[v, .int .i64 (headOf l).n, .string (headOf l).r]) ∧ Below w.heap.size w w' := by
  have HS : Hid (Sl w v (ss l)) := hs
  have HG : Hid (Glob w) := hG
  obtain ⟨ao, cap, rfl, hcap⟩ := hs.form
  rw [ss_len] at *
  clear hs hG
  have B0 : Hid (Below w.heap.size w w) := Below.refl _ _
  obtain ⟨W1, HW1, b1, y1, hS1, r_res1⟩ : ∃ X, Hid ((w.alloc (.cells #[.slice none 0 0, .int .i64 0, .string ⟨#[]⟩] 26)) = X) ∧ Below w.heap.size w X ∧ w.heap.size + 1 ≤ X.heap.size ∧ Hid (X.heap.size = w.heap.size + 1) ∧ Hid (X.heap[w.heap.size]? = some (.cells #[.slice none 0 0, .int .i64 0, .string ⟨#[]⟩] 26 (0, 0))) := ⟨_, rfl, ((Below.refl _ _).alloc (Nat.le_refl _) _), by simp, by show _ = _; simp, (by show _ = _; exact alloc_nth1_0 w _)⟩
  have z1 : w.heap.size ≤ W1.heap.size := b1.size
  have B1 : Hid (Below w.heap.size w W1) := B0.out.trans (b1.mono B0.out.size)
  have c_res1_0 : W1.cell? ⟨w.heap.size, 0, none⟩ = some (.slice none 0 0) := row_at r_res1.out 0
  have c_res1_1 : W1.cell? ⟨w.heap.size, 1, none⟩ = some (.int .i64 0) := row_at r_res1.out 1
  have c_res1_2 : W1.cell? ⟨w.heap.size, 2, none⟩ = some (.string ⟨#[]⟩) := row_at r_res1.out 2
  have q : ∀ W v1, Glob W → Sl W v1 (ss l) → _ := fun W v1 h0 h1 => headOf_impl W v1 l h0 h1 hl hz
  obtain ⟨M, hM⟩ : ∃ M, headOf l = M := ⟨_, rfl⟩
  simp only [hM] at q
  rw [hM]
  clear hM hz
  go_enter Tryd.func33, Tryd.ntmps33
  go_wp2_with fail
  rw [HW1.out]
  refine (q W1 _ (HG.out.later B1.out) (HS.out.later B1.out)).mono ?_
  rintro e W2 ⟨rfl, b2⟩
  have z2 : W1.heap.size ≤ W2.heap.size := b2.size
  have B2 : Hid (Below w.heap.size w W2) := B1.out.trans (b2.mono B1.out.size)
  have r_res2 : Hid (W2.heap[w.heap.size]? = some (.cells #[.slice none 0 0, .int .i64 0, .string ⟨#[]⟩] 26 (0, 0))) := rowKeep r_res1.out b2
  have c_res2_0 : W2.cell? ⟨w.heap.size, 0, none⟩ = some (.slice none 0 0) := row_at r_res2.out 0
  have c_res2_1 : W2.cell? ⟨w.heap.size, 1, none⟩ = some (.int .i64 0) := row_at r_res2.out 1
  have c_res2_2 : W2.cell? ⟨w.heap.size, 2, none⟩ = some (.string ⟨#[]⟩) := row_at r_res2.out 2
  clear r_res1 c_res1_0 c_res1_1 c_res1_2
  go_wp2_with (refine wpList_store_row rfl 26 _ _ rfl (w.heap.size) (lc (.slice ao l.length cap) M) rfl rfl 26 _ r_res2.out (sizeL _ _) rfl (oneL _ rfl) ?_)
  refine bodyPost_ret (v := .agg (lc (.slice ao l.length cap) M)) (results_cell_row rfl _ _ (w.heap.size) 26 _ (0, 0) _ rfl (setRow_heap _ _ _ _ _ (0, 0) r_res2.out) Tryd.underlying26 rfl (sizeL _ _)) rfl ⟨rfl, below_setRow B2.out (by omega) _⟩

set_option maxRecDepth 1000000 in
set_option maxHeartbeats 2000000 in
theorem lognew_impl (w : World) (hG : Glob w) :
    Calls Tryd.prog 15 #[] w fun e w' => ∃ v', e = .returned (.agg #[v', .int .i64 (headOf []).n, .string (headOf []).r]) ∧ Own w' w.heap.size w'.heap.size 9 v' (ss []) ∧ Below w.heap.size w w' := by
  have HG : Hid (Glob w) := hG
  clear hG
  have B0 : Hid (Below w.heap.size w w) := Below.refl _ _
  obtain ⟨W1, HW1, b1, y1, hS1, r_res1⟩ : ∃ X, Hid ((w.alloc (.cells #[.slice none 0 0, .int .i64 0, .string ⟨#[]⟩] 26)) = X) ∧ Below w.heap.size w X ∧ w.heap.size + 1 ≤ X.heap.size ∧ Hid (X.heap.size = w.heap.size + 1) ∧ Hid (X.heap[w.heap.size]? = some (.cells #[.slice none 0 0, .int .i64 0, .string ⟨#[]⟩] 26 (0, 0))) := ⟨_, rfl, ((Below.refl _ _).alloc (Nat.le_refl _) _), by simp, by show _ = _; simp, (by show _ = _; exact alloc_nth1_0 w _)⟩
  have z1 : w.heap.size ≤ W1.heap.size := b1.size
  have B1 : Hid (Below w.heap.size w W1) := B0.out.trans (b1.mono B0.out.size)
  have c_res1_0 : W1.cell? ⟨w.heap.size, 0, none⟩ = some (.slice none 0 0) := row_at r_res1.out 0
  have c_res1_1 : W1.cell? ⟨w.heap.size, 1, none⟩ = some (.int .i64 0) := row_at r_res1.out 1
  have c_res1_2 : W1.cell? ⟨w.heap.size, 2, none⟩ = some (.string ⟨#[]⟩) := row_at r_res1.out 2
  have q : ∀ W, Glob W → _ := fun W h0 => logof_impl W (.slice none 0 0) [] h0 (Sl.nil W) (Nat.zero_le _) (fun s hs => by cases hs)
  obtain ⟨M, hM⟩ : ∃ M, headOf [] = M := ⟨_, rfl⟩
  simp only [hM] at q
  rw [hM]
  clear hM
  go_enter Tryd.func15, Tryd.ntmps15
  go_wp2_with fail
  rw [HW1.out]
  refine (q W1 (HG.out.later B1.out)).mono ?_
  rintro e W2 ⟨rfl, b2⟩
  have z2 : W1.heap.size ≤ W2.heap.size := b2.size
  have B2 : Hid (Below w.heap.size w W2) := B1.out.trans (b2.mono B1.out.size)
  have r_res2 : Hid (W2.heap[w.heap.size]? = some (.cells #[.slice none 0 0, .int .i64 0, .string ⟨#[]⟩] 26 (0, 0))) := rowKeep r_res1.out b2
  have c_res2_0 : W2.cell? ⟨w.heap.size, 0, none⟩ = some (.slice none 0 0) := row_at r_res2.out 0
  have c_res2_1 : W2.cell? ⟨w.heap.size, 1, none⟩ = some (.int .i64 0) := row_at r_res2.out 1
  have c_res2_2 : W2.cell? ⟨w.heap.size, 2, none⟩ = some (.string ⟨#[]⟩) := row_at r_res2.out 2
  clear r_res1 c_res1_0 c_res1_1 c_res1_2
  go_wp2_with (refine wpList_store_row rfl 26 _ _ rfl (w.heap.size) (lc (.slice none 0 0) M) rfl rfl 26 _ r_res2.out (sizeL _ _) rfl (oneL _ rfl) ?_)
  refine bodyPost_ret (v := .agg (lc (.slice none 0 0) M)) (results_cell_row rfl _ _ (w.heap.size) 26 _ (0, 0) _ rfl (setRow_heap _ _ _ _ _ (0, 0) r_res2.out) Tryd.underlying26 rfl (sizeL _ _)) rfl ⟨.slice none 0 0, rfl, Own.none9 _ _ _, below_setRow B2.out (by omega) _⟩

end Go.Proofs.YtfpaichdkddglabDoor.Lg

/- Chapter 11, the landed code: a copy of a log. -/
namespace Go.Proofs.YtfpaichdkddglabDoor.Lg
open Go.RowKit Go.Proofs.YtfpaichdkddglabDoor.Mem Go.Proofs.YtfpaichdkddglabDoor.Laws Go.Proofs.YtfpaichdkddglabDoor.Bytes Go.Proofs.YtfpaichdkddglabDoor.Sha Go.Proofs.YtfpaichdkddglabDoor.Tr Go.Proofs.YtfpaichdkddglabDoor.He
set_option linter.unusedVariables false
set_option linter.unusedSimpArgs false

end Go.Proofs.YtfpaichdkddglabDoor.Lg

/- Chapter 12, the landed code: a new store, a copy. -/
namespace Go.Proofs.YtfpaichdkddglabDoor.Sr
open Go.RowKit Go.Proofs.YtfpaichdkddglabDoor.Mem Go.Proofs.YtfpaichdkddglabDoor.Laws Go.Proofs.YtfpaichdkddglabDoor.Bytes Go.Proofs.YtfpaichdkddglabDoor.Sha Go.Proofs.YtfpaichdkddglabDoor.Tr Go.Proofs.YtfpaichdkddglabDoor.He Go.Proofs.YtfpaichdkddglabDoor.Lg
set_option linter.unusedVariables false
set_option linter.unusedSimpArgs false

theorem none5G (w : World) (lo hi : Nat) : Own w lo hi 5 (.slice none 0 0) (bs []) := ⟨⟨rfl, Or.inl ⟨rfl, rfl⟩⟩, fun g hg => by simp [Value.ownBlock] at hg⟩

set_option maxRecDepth 1000000 in
set_option maxHeartbeats 4000000 in
theorem storenew_impl (w : World) (hG : Glob w) : Calls Tryd.prog 6 #[] w fun e w' => ∃ v' vb', e = .returned (.agg #[v', .int .i64 (headOf []).n, .string (headOf []).r, vb', .int .i64 0]) ∧ Own w' w.heap.size w'.heap.size 9 v' (ss []) ∧ Own w' w.heap.size w'.heap.size 5 vb' (bs []) ∧ Below w.heap.size w w' := by
  have HG : Hid (Glob w) := hG
  clear hG
  have B0 : Hid (Below w.heap.size w w) := Below.refl _ _
  obtain ⟨W1, HW1, b1, y1, hS1, r_res1⟩ : ∃ X, Hid ((w.alloc (.cells #[.slice none 0 0, .int .i64 0, .string ⟨#[]⟩, .slice none 0 0, .int .i64 0] 29)) = X) ∧ Below w.heap.size w X ∧ w.heap.size + 1 ≤ X.heap.size ∧ Hid (X.heap.size = w.heap.size + 1) ∧ Hid (X.heap[w.heap.size]? = some (.cells #[.slice none 0 0, .int .i64 0, .string ⟨#[]⟩, .slice none 0 0, .int .i64 0] 29 (0, 0))) := ⟨_, rfl, ((Below.refl _ _).alloc (Nat.le_refl _) _), by simp, by show _ = _; simp, (by show _ = _; exact alloc_nth1_0 w _)⟩
  have z1 : w.heap.size ≤ W1.heap.size := b1.size
  have B1 : Hid (Below w.heap.size w W1) := B0.out.trans (b1.mono B0.out.size)
  have c_res1_0 : W1.cell? ⟨w.heap.size, 0, none⟩ = some (.slice none 0 0) := row_at r_res1.out 0
  have c_res1_1 : W1.cell? ⟨w.heap.size, 1, none⟩ = some (.int .i64 0) := row_at r_res1.out 1
  have c_res1_2 : W1.cell? ⟨w.heap.size, 2, none⟩ = some (.string ⟨#[]⟩) := row_at r_res1.out 2
  have c_res1_3 : W1.cell? ⟨w.heap.size, 3, none⟩ = some (.slice none 0 0) := row_at r_res1.out 3
  have c_res1_4 : W1.cell? ⟨w.heap.size, 4, none⟩ = some (.int .i64 0) := row_at r_res1.out 4
  obtain ⟨M, hM⟩ : ∃ M, headOf [] = M := ⟨_, rfl⟩
  have q : ∀ W, Glob W → _ := fun W h0 => lognew_impl W h0
  simp only [hM] at q
  rw [hM]
  clear hM
  go_enter Tryd.func6, Tryd.ntmps6
  go_wp2_with fail
  rw [HW1.out]
  refine (q W1 (HG.out.later B1.out)).mono ?_
  rintro e W2 ⟨v_s, rfl, o_s2, b2⟩
  obtain ⟨ao_s, L_s, cap_s, rfl, hL_s, hM_s⟩ := o_s2.form
  have o_s2 : Hid (Own W2 W1.heap.size W2.heap.size 9 (.slice ao_s L_s cap_s) (ss [])) := o_s2
  clear hL_s hM_s
  have z2 : W1.heap.size ≤ W2.heap.size := b2.size
  have B2 : Hid (Below w.heap.size w W2) := B1.out.trans (b2.mono B1.out.size)
  have r_res2 : Hid (W2.heap[w.heap.size]? = some (.cells #[.slice none 0 0, .int .i64 0, .string ⟨#[]⟩, .slice none 0 0, .int .i64 0] 29 (0, 0))) := rowKeep r_res1.out b2
  have c_res2_0 : W2.cell? ⟨w.heap.size, 0, none⟩ = some (.slice none 0 0) := row_at r_res2.out 0
  have c_res2_1 : W2.cell? ⟨w.heap.size, 1, none⟩ = some (.int .i64 0) := row_at r_res2.out 1
  have c_res2_2 : W2.cell? ⟨w.heap.size, 2, none⟩ = some (.string ⟨#[]⟩) := row_at r_res2.out 2
  have c_res2_3 : W2.cell? ⟨w.heap.size, 3, none⟩ = some (.slice none 0 0) := row_at r_res2.out 3
  have c_res2_4 : W2.cell? ⟨w.heap.size, 4, none⟩ = some (.int .i64 0) := row_at r_res2.out 4
  clear r_res1 c_res1_0 c_res1_1 c_res1_2 c_res1_3 c_res1_4
  go_wp2_with (refine wpList_store_row rfl 29 _ _ rfl (w.heap.size) (sc (.slice ao_s L_s cap_s) M (.slice none 0 0) 0) rfl rfl 29 _ r_res2.out (sizeS _ _ _ _) rfl (oneS _ _ rfl rfl) ?_)
  refine bodyPost_ret (v := .agg (sc (.slice ao_s L_s cap_s) M (.slice none 0 0) 0)) (results_cell_row rfl _ _ (w.heap.size) 29 _ (0, 0) _ rfl (setRow_heap _ _ _ _ _ (0, 0) r_res2.out) Tryd.underlying29 rfl (sizeS _ _ _ _)) rfl ⟨_, _, rfl, (Own.setRow o_s2.out _ (by omega)).mono (by omega) (by rw [size_setRow]; omega), none5G _ _ _, below_setRow B2.out (by omega) _⟩

end Go.Proofs.YtfpaichdkddglabDoor.Sr

/- Chapter 12, the landed code: stores that are right; all is sure. -/
namespace Go.Proofs.YtfpaichdkddglabDoor.Sr
open Go.RowKit Go.Proofs.YtfpaichdkddglabDoor.Mem Go.Proofs.YtfpaichdkddglabDoor.Laws Go.Proofs.YtfpaichdkddglabDoor.Bytes Go.Proofs.YtfpaichdkddglabDoor.Sha Go.Proofs.YtfpaichdkddglabDoor.Tr Go.Proofs.YtfpaichdkddglabDoor.He Go.Proofs.YtfpaichdkddglabDoor.Lg
set_option linter.unusedVariables false
set_option linter.unusedSimpArgs false

set_option maxRecDepth 1000000 in
set_option maxHeartbeats 4000000 in
theorem storeok_impl (w : World) (v vb : Value) (st : Sto) (hG : Glob w) (hN : NoC w) (hs : Sl w v (ss st.l)) (hb : Sl w vb (bs st.b)) (hby : Byt st.b) (hl : st.l.length ≤ 1000000000) (hbl : st.b.length ≤ 1000000000) (hz : ∀ s ∈ st.l, s.size ≤ 10000000000) :
    Calls Tryd.prog 13 #[.agg #[v, .int .i64 st.h.n, .string st.h.r, vb, .int .i64 st.s]] w fun e w' => e = .returned (.bool (storeOk st)) ∧ Below w.heap.size w w' := by
  obtain ⟨R, hR⟩ : ∃ R, storeOk st = R := ⟨_, rfl⟩
  have HR : Hid (storeOk st = R) := hR
  have HG : Hid (Glob w) := hG
  have HNC : Hid (NoC w) := hN
  rw [hR]
  obtain ⟨l, h, b, s⟩ := st
  simp only at *
  have HS : Hid (Sl w v (ss l)) := hs
  have HSB : Hid (Sl w vb (bs b)) := hb
  have HBY : Hid (Byt b) := hby
  obtain ⟨ao0, cap0, rfl, hc0⟩ := hs.form
  obtain ⟨ao1, cap1, rfl, hc1⟩ := hb.form
  simp only [ss_len, bs_len] at *
  clear hs hb hby hR hG hN
  have B0 : Hid (Below w.heap.size w w) := Below.refl _ _
  obtain ⟨W1, HW1, b1, y1, hS1, r_a1⟩ : ∃ X, Hid ((w.alloc (.cells #[.slice ao0 l.length cap0, .int .i64 h.n, .string h.r, .slice ao1 b.length cap1, .int .i64 s] 29)) = X) ∧ Below w.heap.size w X ∧ w.heap.size + 1 ≤ X.heap.size ∧ Hid (X.heap.size = w.heap.size + 1) ∧ Hid (X.heap[w.heap.size]? = some (.cells #[.slice ao0 l.length cap0, .int .i64 h.n, .string h.r, .slice ao1 b.length cap1, .int .i64 s] 29 (0, 0))) := ⟨_, rfl, ((Below.refl _ _).alloc (Nat.le_refl _) _), by simp, by show _ = _; simp, (by show _ = _; exact alloc_nth1_0 w _)⟩
  have z1 : w.heap.size ≤ W1.heap.size := b1.size
  have B1 : Hid (Below w.heap.size w W1) := B0.out.trans (b1.mono B0.out.size)
  have c_a1_0 : W1.cell? ⟨w.heap.size, 0, none⟩ = some (.slice ao0 l.length cap0) := row_at r_a1.out 0
  have c_a1_1 : W1.cell? ⟨w.heap.size, 1, none⟩ = some (.int .i64 h.n) := row_at r_a1.out 1
  have c_a1_2 : W1.cell? ⟨w.heap.size, 2, none⟩ = some (.string h.r) := row_at r_a1.out 2
  have c_a1_3 : W1.cell? ⟨w.heap.size, 3, none⟩ = some (.slice ao1 b.length cap1) := row_at r_a1.out 3
  have c_a1_4 : W1.cell? ⟨w.heap.size, 4, none⟩ = some (.int .i64 s) := row_at r_a1.out 4
  have q1 : ∀ W v1, Glob W → Sl W v1 (ss l) → _ := fun W v1 h0 h1 => logok_impl W v1 l h h0 h1 (by omega) hz
  have HLG : Hid (logOk l h = true → l.length ≤ 200) := fun q => (logOk_yes q).1
  obtain ⟨A, hA⟩ : ∃ A, logOk l h = A := ⟨_, rfl⟩
  simp only [hA] at q1
  have HA : Hid (logOk l h = A) := hA
  clear hA hz
  by_cases h6 : (60000 : Int) < (b.length : Int)
  · have d6 : decide ((60000 : Int) < (b.length : Int)) = true := decide_eq_true h6
    have HO : Hid (R = false) := by
      show _ = _
      rw [← HR.out]
      exact storeOk_no _ (fun q => by have h1 := q.2.1; have h2 := q.2.2.1; have h3 := q.2.2.2; simp only at h1 h2 h3; omega)
    go_enter Tryd.func13, Tryd.ntmps13
    go_wp2
    go_ret
    exact ⟨by rw [HO.out]; rfl, by rw [HW1.out]; exact B1.out⟩
  · have d6 : decide ((60000 : Int) < (b.length : Int)) = false := decide_eq_false h6
    by_cases h7 : s < 0
    · have d7 : decide (s < 0) = true := decide_eq_true h7
      have HO : Hid (R = false) := by
        show _ = _
        rw [← HR.out]
        exact storeOk_no _ (fun q => by have h1 := q.2.1; have h2 := q.2.2.1; have h3 := q.2.2.2; simp only at h1 h2 h3; omega)
      go_enter Tryd.func13, Tryd.ntmps13
      go_wp2
      go_ret
      exact ⟨by rw [HO.out]; rfl, by rw [HW1.out]; exact B1.out⟩
    · have d7 : decide (s < 0) = false := decide_eq_false h7
      by_cases h8 : (b.length : Int) < s
      · have d8 : decide ((b.length : Int) < s) = true := decide_eq_true h8
        have HO : Hid (R = false) := by
          show _ = _
          rw [← HR.out]
          exact storeOk_no _ (fun q => by have h1 := q.2.1; have h2 := q.2.2.1; have h3 := q.2.2.2; simp only at h1 h2 h3; omega)
        go_enter Tryd.func13, Tryd.ntmps13
        go_wp2
        go_ret
        exact ⟨by rw [HO.out]; rfl, by rw [HW1.out]; exact B1.out⟩
      · have d8 : decide ((b.length : Int) < s) = false := decide_eq_false h8
        go_enter Tryd.func13, Tryd.ntmps13
        go_wp2_with fail
        rw [HW1.out]
        refine (q1 W1 _ (HG.out.later B1.out) (HS.out.later B1.out)).mono ?_
        rintro e W2 ⟨rfl, b2⟩
        have z2 : W1.heap.size ≤ W2.heap.size := b2.size
        have B2 : Hid (Below w.heap.size w W2) := B1.out.trans (b2.mono B1.out.size)
        have r_a2 : Hid (W2.heap[w.heap.size]? = some (.cells #[.slice ao0 l.length cap0, .int .i64 h.n, .string h.r, .slice ao1 b.length cap1, .int .i64 s] 29 (0, 0))) := rowKeep r_a1.out b2
        have c_a2_0 : W2.cell? ⟨w.heap.size, 0, none⟩ = some (.slice ao0 l.length cap0) := row_at r_a2.out 0
        have c_a2_1 : W2.cell? ⟨w.heap.size, 1, none⟩ = some (.int .i64 h.n) := row_at r_a2.out 1
        have c_a2_2 : W2.cell? ⟨w.heap.size, 2, none⟩ = some (.string h.r) := row_at r_a2.out 2
        have c_a2_3 : W2.cell? ⟨w.heap.size, 3, none⟩ = some (.slice ao1 b.length cap1) := row_at r_a2.out 3
        have c_a2_4 : W2.cell? ⟨w.heap.size, 4, none⟩ = some (.int .i64 s) := row_at r_a2.out 4
        clear r_a1 c_a1_0 c_a1_1 c_a1_2 c_a1_3 c_a1_4
        clear q1
        cases A
        · have HO : Hid (R = false) := by
            show _ = _
            rw [← HR.out]
            exact storeOk_no _ (fun q => by have h1 := q.1; simp only at h1; rw [HA.out] at h1; cases h1)
          go_wp2
          go_ret
          exact ⟨by rw [HO.out]; rfl, B2.out⟩
        · have h2 := HLG.out HA.out
          have HO : Hid (fin12 b l b.length 0 [] (headOf []) = R) := by
            show _ = _
            rw [← HR.out]
            exact (storeOk_fin ⟨l, h, b, s⟩ HA.out (by simp only; omega) (by simp only; omega)).symm
          have q3 := make_impl W2 _ _ b l (HG.out.later B2.out) (HNC.out.later B2.out) (HSB.out.later B2.out) HBY.out (by omega) (HS.out.later B2.out) h2
          rw [HO.out] at q3
          go_wp2_with fail
          refine (q3).mono ?_
          rintro e W3 ⟨rfl, b3⟩
          have z3 : W2.heap.size ≤ W3.heap.size := b3.size
          have B3 : Hid (Below w.heap.size w W3) := B2.out.trans (b3.mono B2.out.size)
          have r_a3 : Hid (W3.heap[w.heap.size]? = some (.cells #[.slice ao0 l.length cap0, .int .i64 h.n, .string h.r, .slice ao1 b.length cap1, .int .i64 s] 29 (0, 0))) := rowKeep r_a2.out b3
          have c_a3_0 : W3.cell? ⟨w.heap.size, 0, none⟩ = some (.slice ao0 l.length cap0) := row_at r_a3.out 0
          have c_a3_1 : W3.cell? ⟨w.heap.size, 1, none⟩ = some (.int .i64 h.n) := row_at r_a3.out 1
          have c_a3_2 : W3.cell? ⟨w.heap.size, 2, none⟩ = some (.string h.r) := row_at r_a3.out 2
          have c_a3_3 : W3.cell? ⟨w.heap.size, 3, none⟩ = some (.slice ao1 b.length cap1) := row_at r_a3.out 3
          have c_a3_4 : W3.cell? ⟨w.heap.size, 4, none⟩ = some (.int .i64 s) := row_at r_a3.out 4
          clear r_a2 c_a2_0 c_a2_1 c_a2_2 c_a2_3 c_a2_4
          go_wp2
          go_ret
          exact ⟨by cases R <;> rfl, B3.out⟩

end Go.Proofs.YtfpaichdkddglabDoor.Sr
