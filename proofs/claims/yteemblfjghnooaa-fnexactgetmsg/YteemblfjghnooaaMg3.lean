/- Chapter 13, the specification's side: words out of bytes. -/
import Derived.Test.YteemblfjghnooaaMg2
import Derived.Test.YteemblfjghnooaaGetTs
namespace Go.Proofs.Yteemblfjghnooaa.Mg
open Go.RowKit Go.Proofs.Yteemblfjghnooaa.Mem Go.Proofs.Yteemblfjghnooaa.Laws Go.Proofs.Yteemblfjghnooaa.Bytes Go.Proofs.Yteemblfjghnooaa.Sha Go.Proofs.Yteemblfjghnooaa.Tr Go.Proofs.Yteemblfjghnooaa.He
set_option linter.unusedVariables false
set_option linter.unusedSimpArgs false

theorem numS (xs : List Int) (a : Int) : 0 ≤ (Plain.getNum xs a).2.1 ∧ (Plain.getNum xs a).2.1 ≤ xs.length := by
  obtain ⟨n, p, ok, hg⟩ : ∃ n p ok, Plain.getNum xs a = (n, p, ok) := ⟨_, _, _, rfl⟩
  rw [hg]
  cases ok
  · unfold Plain.getNum at hg
    split at hg
    · split at hg
      · simp at hg
      · simp only [Prod.mk.injEq] at hg
        simp only
        omega
    · simp only [Prod.mk.injEq] at hg
      simp only
      omega
  · have := Plain.getNum_bd hg
    simp only
    omega
theorem textS (xs : List Int) (a : Int) : 0 ≤ (Plain.getText xs a).2.1 ∧ (Plain.getText xs a).2.1 ≤ xs.length ∧ (Plain.getText xs a).1.size ≤ xs.length := by
  obtain ⟨s, p, ok, hg⟩ : ∃ n p ok, Plain.getText xs a = (n, p, ok) := ⟨_, _, _, rfl⟩
  rw [hg]
  cases ok
  · unfold Plain.getText at hg
    split at hg
    · simp at hg
    · simp only [Prod.mk.injEq] at hg
      obtain ⟨rfl, rfl, _⟩ := hg
      exact ⟨Int.le_refl _, Int.natCast_nonneg _, Nat.zero_le _⟩
  · have := Plain.getText_bd hg
    simp only
    omega
theorem getM_yes {xs : List Int} {m : Ms} (h : place xs = (m, true)) (hk : msgOk m = true) : getM xs = (m, true) := by
  unfold getM
  rw [h, if_pos ⟨rfl, hk⟩]
theorem getM_no {xs : List Int} (h : (place xs).2 = false ∨ msgOk (place xs).1 = false) : getM xs = (ms0, false) := by
  unfold getM
  rw [if_neg]
  rintro ⟨h1, h2⟩
  rcases h with h | h
  · rw [h1] at h; cases h
  · rw [h2] at h; cases h
/-- what GetMsg answers -/
def GotM (xs : List Int) (w : World) (e : Ending) (w' : World) : Prop :=
  ∃ v', e = .returned (.tuple #[.agg #[.int .i64 (getM xs).1.k, .int .i64 (getM xs).1.f, .int .i64 (getM xs).1.t, .int .i64 (getM xs).1.h.n, .string (getM xs).1.h.r, .int .i64 (getM xs).1.n, v'], .bool (getM xs).2]) ∧ Own w' w.heap.size w'.heap.size 9 v' (ss (getM xs).1.x) ∧ Below w.heap.size w w'
theorem nil9 (w : World) (lo hi : Nat) : Own w lo hi 9 (.slice none 0 0) (ss []) := ⟨⟨rfl, Or.inl ⟨rfl, rfl⟩⟩, fun g hg => by simp [Value.ownBlock] at hg⟩

set_option maxRecDepth 1000000 in
set_option maxHeartbeats 8000000 in
theorem getm_spec (w : World) (v : Value) (xs : List Int) (hs : Sl w v (bs xs)) (hb : Byt xs) (hx : xs.length ≤ 1000000000000) :
    Calls Try.prog 12 #[v] w fun e w' => GotM xs w e w' := by
  have HS : Hid (Sl w v (bs xs)) := hs
  have HBY : Hid (Byt xs) := hb
  obtain ⟨ao0, cap0, rfl, hc0⟩ := hs.form
  rw [bs_len] at *
  clear hs hb
  unfold GotM
  obtain ⟨G, hG⟩ : ∃ G, getM xs = G := ⟨_, rfl⟩
  have HG : Hid (getM xs = G) := hG
  rw [hG]
  clear hG
  have B0 : Hid (Below w.heap.size w w) := Below.refl _ _
  obtain ⟨W1, HW1, b1, y1, hS1, r_res1⟩ : ∃ X, Hid ((w.alloc (.cells #[.int .i64 0, .int .i64 0, .int .i64 0, .int .i64 0, .string ⟨#[]⟩, .int .i64 0, .slice none 0 0] 28)) = X) ∧ Below w.heap.size w X ∧ w.heap.size + 1 ≤ X.heap.size ∧ Hid (X.heap.size = w.heap.size + 1) ∧ Hid (X.heap[w.heap.size]? = some (.cells #[.int .i64 0, .int .i64 0, .int .i64 0, .int .i64 0, .string ⟨#[]⟩, .int .i64 0, .slice none 0 0] 28 (0, 0))) := ⟨_, rfl, ((Below.refl _ _).alloc (Nat.le_refl _) _), by simp, by show _ = _; simp, (by show _ = _; exact alloc_nth1_0 w _)⟩
  have z1 : w.heap.size ≤ W1.heap.size := b1.size
  have B1 : Hid (Below w.heap.size w W1) := B0.out.trans (b1.mono B0.out.size)
  have c_res1_0 : W1.cell? ⟨w.heap.size, 0, none⟩ = some (.int .i64 0) := row_at r_res1.out 0
  have c_res1_1 : W1.cell? ⟨w.heap.size, 1, none⟩ = some (.int .i64 0) := row_at r_res1.out 1
  have c_res1_2 : W1.cell? ⟨w.heap.size, 2, none⟩ = some (.int .i64 0) := row_at r_res1.out 2
  have c_res1_3 : W1.cell? ⟨w.heap.size, 3, none⟩ = some (.int .i64 0) := row_at r_res1.out 3
  have c_res1_4 : W1.cell? ⟨w.heap.size, 4, none⟩ = some (.string ⟨#[]⟩) := row_at r_res1.out 4
  have c_res1_5 : W1.cell? ⟨w.heap.size, 5, none⟩ = some (.int .i64 0) := row_at r_res1.out 5
  have c_res1_6 : W1.cell? ⟨w.heap.size, 6, none⟩ = some (.slice none 0 0) := row_at r_res1.out 6
  go_enter Try.func12, Try.ntmps12
  obtain ⟨k, p0, o0, e0⟩ : ∃ n p ok, Plain.getNum xs (0) = (n, p, ok) := ⟨_, _, _, rfl⟩
  have s0 := numS xs (0)
  rw [e0] at s0
  simp only at s0
  have E0 : Hid (Plain.getNum xs (0) = (k, p0, o0)) := e0
  have q0 : ∀ W v1, Sl W v1 (bs xs) → _ := fun W v1 h1 => Gets.get_spec W v1 xs (0) h1 HBY.out (by omega) (by omega) (by omega)
  simp only [e0] at q0
  clear e0
  go_wp2_with fail
  rw [HW1.out]
  refine (q0 W1 _ (HS.out.later B1.out)).mono ?_
  rintro e W_ ⟨rfl, hW_⟩
  have hW_ := hW_.symm
  subst hW_
  clear q0
  obtain ⟨f, p1, o1, e1⟩ : ∃ n p ok, Plain.getNum xs (p0) = (n, p, ok) := ⟨_, _, _, rfl⟩
  have s1 := numS xs (p0)
  rw [e1] at s1
  simp only at s1
  have E1 : Hid (Plain.getNum xs (p0) = (f, p1, o1)) := e1
  have q1 : ∀ W v1, Sl W v1 (bs xs) → _ := fun W v1 h1 => Gets.get_spec W v1 xs (p0) h1 HBY.out (by omega) (by omega) (by omega)
  simp only [e1] at q1
  clear e1
  go_wp2_with fail
  refine (q1 W1 _ (HS.out.later B1.out)).mono ?_
  rintro e W_ ⟨rfl, hW_⟩
  have hW_ := hW_.symm
  subst hW_
  clear q1
  obtain ⟨t, p2, o2, e2⟩ : ∃ n p ok, Plain.getNum xs (p1) = (n, p, ok) := ⟨_, _, _, rfl⟩
  have s2 := numS xs (p1)
  rw [e2] at s2
  simp only at s2
  have E2 : Hid (Plain.getNum xs (p1) = (t, p2, o2)) := e2
  have q2 : ∀ W v1, Sl W v1 (bs xs) → _ := fun W v1 h1 => Gets.get_spec W v1 xs (p1) h1 HBY.out (by omega) (by omega) (by omega)
  simp only [e2] at q2
  clear e2
  go_wp2_with fail
  refine (q2 W1 _ (HS.out.later B1.out)).mono ?_
  rintro e W_ ⟨rfl, hW_⟩
  have hW_ := hW_.symm
  subst hW_
  clear q2
  obtain ⟨s, p3, o3, e3⟩ : ∃ n p ok, Plain.getNum xs (p2) = (n, p, ok) := ⟨_, _, _, rfl⟩
  have s3 := numS xs (p2)
  rw [e3] at s3
  simp only at s3
  have E3 : Hid (Plain.getNum xs (p2) = (s, p3, o3)) := e3
  have q3 : ∀ W v1, Sl W v1 (bs xs) → _ := fun W v1 h1 => Gets.get_spec W v1 xs (p2) h1 HBY.out (by omega) (by omega) (by omega)
  simp only [e3] at q3
  clear e3
  go_wp2_with fail
  refine (q3 W1 _ (HS.out.later B1.out)).mono ?_
  rintro e W_ ⟨rfl, hW_⟩
  have hW_ := hW_.symm
  subst hW_
  clear q3
  obtain ⟨r, p4, o4, e4⟩ : ∃ n p ok, Plain.getText xs (p3) = (n, p, ok) := ⟨_, _, _, rfl⟩
  have s4 := textS xs (p3)
  rw [e4] at s4
  simp only at s4
  have E4 : Hid (Plain.getText xs (p3) = (r, p4, o4)) := e4
  have q4 : ∀ W v1, Sl W v1 (bs xs) → _ := fun W v1 h1 => GetT.text_spec W v1 xs (p3) h1 HBY.out (by omega) (by omega) (by omega)
  simp only [e4] at q4
  clear e4
  go_wp2_with fail
  refine (q4 W1 _ (HS.out.later B1.out)).mono ?_
  rintro e W_ ⟨rfl, hW_⟩
  have hW_ := hW_.symm
  subst hW_
  clear q4
  obtain ⟨n, p5, o5, e5⟩ : ∃ n p ok, Plain.getNum xs (p4) = (n, p, ok) := ⟨_, _, _, rfl⟩
  have s5 := numS xs (p4)
  rw [e5] at s5
  simp only at s5
  have E5 : Hid (Plain.getNum xs (p4) = (n, p5, o5)) := e5
  have q5 : ∀ W v1, Sl W v1 (bs xs) → _ := fun W v1 h1 => Gets.get_spec W v1 xs (p4) h1 HBY.out (by omega) (by omega) (by omega)
  simp only [e5] at q5
  clear e5
  go_wp2_with fail
  refine (q5 W1 _ (HS.out.later B1.out)).mono ?_
  rintro e W_ ⟨rfl, hW_⟩
  have hW_ := hW_.symm
  subst hW_
  clear q5
  obtain ⟨x, p6, o6, e6⟩ : ∃ n p ok, Plain.getTexts xs p5 = (n, p, ok) := ⟨_, _, _, rfl⟩
  have s6 := Plain.getTexts_len xs p5
  rw [e6] at s6
  simp only at s6
  have E6 : Hid (Plain.getTexts xs p5 = (x, p6, o6)) := e6
  have q6 : ∀ W v1, Sl W v1 (bs xs) → _ := fun W v1 h1 => GetTs.texts_spec W v1 xs p5 h1 HBY.out (by omega) (by omega) (by omega)
  unfold GetTs.Done at q6
  simp only [e6] at q6
  clear e6
  go_wp2_with fail
  refine (q6 W1 _ (HS.out.later B1.out)).mono ?_
  rintro e W2 ⟨v_x, rfl, o_x2, b2⟩
  obtain ⟨ao_x, L_x, cap_x, rfl, hL_x, hM_x⟩ := o_x2.form
  have o_x2 : Hid (Own W2 W1.heap.size W2.heap.size 9 (.slice ao_x L_x cap_x) (ss x)) := o_x2
  clear hL_x hM_x
  have z2 : W1.heap.size ≤ W2.heap.size := b2.size
  have B2 : Hid (Below w.heap.size w W2) := B1.out.trans (b2.mono B1.out.size)
  have r_res2 : Hid (W2.heap[w.heap.size]? = some (.cells #[.int .i64 0, .int .i64 0, .int .i64 0, .int .i64 0, .string ⟨#[]⟩, .int .i64 0, .slice none 0 0] 28 (0, 0))) := rowKeep r_res1.out b2
  have c_res2_0 : W2.cell? ⟨w.heap.size, 0, none⟩ = some (.int .i64 0) := row_at r_res2.out 0
  have c_res2_1 : W2.cell? ⟨w.heap.size, 1, none⟩ = some (.int .i64 0) := row_at r_res2.out 1
  have c_res2_2 : W2.cell? ⟨w.heap.size, 2, none⟩ = some (.int .i64 0) := row_at r_res2.out 2
  have c_res2_3 : W2.cell? ⟨w.heap.size, 3, none⟩ = some (.int .i64 0) := row_at r_res2.out 3
  have c_res2_4 : W2.cell? ⟨w.heap.size, 4, none⟩ = some (.string ⟨#[]⟩) := row_at r_res2.out 4
  have c_res2_5 : W2.cell? ⟨w.heap.size, 5, none⟩ = some (.int .i64 0) := row_at r_res2.out 5
  have c_res2_6 : W2.cell? ⟨w.heap.size, 6, none⟩ = some (.slice none 0 0) := row_at r_res2.out 6
  clear r_res1 c_res1_0 c_res1_1 c_res1_2 c_res1_3 c_res1_4 c_res1_5 c_res1_6
  clear q6
  have HPL : Hid (place xs = (⟨k, f, t, ⟨s, r⟩, n, x⟩, o0 && o1 && o2 && o3 && o4 && o5 && o6 && decide (p6 = (xs.length : Int)))) := place_of E0.out E1.out E2.out E3.out E4.out E5.out E6.out
  clear E0 E1 E2 E3 E4 E5 E6
  have a_res2_0 : ∀ o, (W2.alloc o).cell? ⟨w.heap.size, 0, none⟩ = some (.int .i64 0) := fun o => keepR c_res2_0 ((Below.refl _ _).alloc (Nat.le_refl _) o)
  have a_res2_1 : ∀ o, (W2.alloc o).cell? ⟨w.heap.size, 1, none⟩ = some (.int .i64 0) := fun o => keepR c_res2_1 ((Below.refl _ _).alloc (Nat.le_refl _) o)
  have a_res2_2 : ∀ o, (W2.alloc o).cell? ⟨w.heap.size, 2, none⟩ = some (.int .i64 0) := fun o => keepR c_res2_2 ((Below.refl _ _).alloc (Nat.le_refl _) o)
  have a_res2_3 : ∀ o, (W2.alloc o).cell? ⟨w.heap.size, 3, none⟩ = some (.int .i64 0) := fun o => keepR c_res2_3 ((Below.refl _ _).alloc (Nat.le_refl _) o)
  have a_res2_4 : ∀ o, (W2.alloc o).cell? ⟨w.heap.size, 4, none⟩ = some (.string ⟨#[]⟩) := fun o => keepR c_res2_4 ((Below.refl _ _).alloc (Nat.le_refl _) o)
  have a_res2_5 : ∀ o, (W2.alloc o).cell? ⟨w.heap.size, 5, none⟩ = some (.int .i64 0) := fun o => keepR c_res2_5 ((Below.refl _ _).alloc (Nat.le_refl _) o)
  have a_res2_6 : ∀ o, (W2.alloc o).cell? ⟨w.heap.size, 6, none⟩ = some (.slice none 0 0) := fun o => keepR c_res2_6 ((Below.refl _ _).alloc (Nat.le_refl _) o)
  obtain ⟨W3, HW3, b3, y3, hS3, r_m3⟩ : ∃ X, Hid ((W2.alloc (.cells #[.int .i64 k, .int .i64 f, .int .i64 t, .int .i64 s, .string r, .int .i64 n, .slice ao_x L_x cap_x] 28)) = X) ∧ Below W2.heap.size W2 X ∧ W2.heap.size + 1 ≤ X.heap.size ∧ Hid (X.heap.size = W2.heap.size + 1) ∧ Hid (X.heap[W2.heap.size]? = some (.cells #[.int .i64 k, .int .i64 f, .int .i64 t, .int .i64 s, .string r, .int .i64 n, .slice ao_x L_x cap_x] 28 (0, 0))) := ⟨_, rfl, ((Below.refl _ _).alloc (Nat.le_refl _) _), by simp, by show _ = _; simp, (by show _ = _; exact alloc_nth1_0 W2 _)⟩
  have z3 : W2.heap.size ≤ W3.heap.size := b3.size
  have B3 : Hid (Below w.heap.size w W3) := B2.out.trans (b3.mono B2.out.size)
  have r_res3 : Hid (W3.heap[w.heap.size]? = some (.cells #[.int .i64 0, .int .i64 0, .int .i64 0, .int .i64 0, .string ⟨#[]⟩, .int .i64 0, .slice none 0 0] 28 (0, 0))) := rowKeep r_res2.out b3
  have o_x3 : Hid (Own W3 (W1.heap.size) (W2.heap.size) 9 (.slice ao_x L_x cap_x) (ss x)) := Own.later o_x2.out b3 (by omega)
  have c_res3_0 : W3.cell? ⟨w.heap.size, 0, none⟩ = some (.int .i64 0) := row_at r_res3.out 0
  have c_res3_1 : W3.cell? ⟨w.heap.size, 1, none⟩ = some (.int .i64 0) := row_at r_res3.out 1
  have c_res3_2 : W3.cell? ⟨w.heap.size, 2, none⟩ = some (.int .i64 0) := row_at r_res3.out 2
  have c_res3_3 : W3.cell? ⟨w.heap.size, 3, none⟩ = some (.int .i64 0) := row_at r_res3.out 3
  have c_res3_4 : W3.cell? ⟨w.heap.size, 4, none⟩ = some (.string ⟨#[]⟩) := row_at r_res3.out 4
  have c_res3_5 : W3.cell? ⟨w.heap.size, 5, none⟩ = some (.int .i64 0) := row_at r_res3.out 5
  have c_res3_6 : W3.cell? ⟨w.heap.size, 6, none⟩ = some (.slice none 0 0) := row_at r_res3.out 6
  have c_m3_0 : W3.cell? ⟨W2.heap.size, 0, none⟩ = some (.int .i64 k) := row_at r_m3.out 0
  have c_m3_1 : W3.cell? ⟨W2.heap.size, 1, none⟩ = some (.int .i64 f) := row_at r_m3.out 1
  have c_m3_2 : W3.cell? ⟨W2.heap.size, 2, none⟩ = some (.int .i64 t) := row_at r_m3.out 2
  have c_m3_3 : W3.cell? ⟨W2.heap.size, 3, none⟩ = some (.int .i64 s) := row_at r_m3.out 3
  have c_m3_4 : W3.cell? ⟨W2.heap.size, 4, none⟩ = some (.string r) := row_at r_m3.out 4
  have c_m3_5 : W3.cell? ⟨W2.heap.size, 5, none⟩ = some (.int .i64 n) := row_at r_m3.out 5
  have c_m3_6 : W3.cell? ⟨W2.heap.size, 6, none⟩ = some (.slice ao_x L_x cap_x) := row_at r_m3.out 6
  clear r_res2 c_res2_0 c_res2_1 c_res2_2 c_res2_3 c_res2_4 c_res2_5 c_res2_6 o_x2
  cases o0
  · have HN : Hid (G = (ms0, false)) := by show _ = _; rw [← HG.out]; exact getM_no (Or.inl (by rw [HPL.out]; simp))
    go_wp2_with (first | ((try rw [HW3.out]); refine wpList_load_row rfl 28 _ rfl (W2.heap.size) rfl 28 (mc ms0 (.slice none 0 0)) (0, 0) _ r_m3.out Try.underlying28 rfl (sizeM _ _) ?_) | ((try rw [HW3.out]); refine wpList_store_row rfl 28 _ _ rfl (w.heap.size) (mc ms0 (.slice none 0 0)) rfl rfl 28 _ r_res3.out (sizeM _ _) rfl (oneM _ rfl) ?_))
    refine bodyPost_ret (res_row_tmp rfl _ _ (w.heap.size) 28 (mc ms0 (.slice none 0 0)) (0, 0) _ rfl (setRow_heap _ _ _ _ _ (0, 0) r_res3.out) Try.underlying28 rfl (sizeM _ _)) rfl ⟨.slice none 0 0, by rw [HN.out]; rfl, ?_, below_setRow B3.out (by omega) _⟩
    rw [HN.out]
    exact nil9 _ _ _
  · cases o1
    · have HN : Hid (G = (ms0, false)) := by show _ = _; rw [← HG.out]; exact getM_no (Or.inl (by rw [HPL.out]; simp))
      go_wp2_with (first | ((try rw [HW3.out]); refine wpList_load_row rfl 28 _ rfl (W2.heap.size) rfl 28 (mc ms0 (.slice none 0 0)) (0, 0) _ r_m3.out Try.underlying28 rfl (sizeM _ _) ?_) | ((try rw [HW3.out]); refine wpList_store_row rfl 28 _ _ rfl (w.heap.size) (mc ms0 (.slice none 0 0)) rfl rfl 28 _ r_res3.out (sizeM _ _) rfl (oneM _ rfl) ?_))
      refine bodyPost_ret (res_row_tmp rfl _ _ (w.heap.size) 28 (mc ms0 (.slice none 0 0)) (0, 0) _ rfl (setRow_heap _ _ _ _ _ (0, 0) r_res3.out) Try.underlying28 rfl (sizeM _ _)) rfl ⟨.slice none 0 0, by rw [HN.out]; rfl, ?_, below_setRow B3.out (by omega) _⟩
      rw [HN.out]
      exact nil9 _ _ _
    · cases o2
      · have HN : Hid (G = (ms0, false)) := by show _ = _; rw [← HG.out]; exact getM_no (Or.inl (by rw [HPL.out]; simp))
        go_wp2_with (first | ((try rw [HW3.out]); refine wpList_load_row rfl 28 _ rfl (W2.heap.size) rfl 28 (mc ms0 (.slice none 0 0)) (0, 0) _ r_m3.out Try.underlying28 rfl (sizeM _ _) ?_) | ((try rw [HW3.out]); refine wpList_store_row rfl 28 _ _ rfl (w.heap.size) (mc ms0 (.slice none 0 0)) rfl rfl 28 _ r_res3.out (sizeM _ _) rfl (oneM _ rfl) ?_))
        refine bodyPost_ret (res_row_tmp rfl _ _ (w.heap.size) 28 (mc ms0 (.slice none 0 0)) (0, 0) _ rfl (setRow_heap _ _ _ _ _ (0, 0) r_res3.out) Try.underlying28 rfl (sizeM _ _)) rfl ⟨.slice none 0 0, by rw [HN.out]; rfl, ?_, below_setRow B3.out (by omega) _⟩
        rw [HN.out]
        exact nil9 _ _ _
      · cases o3
        · have HN : Hid (G = (ms0, false)) := by show _ = _; rw [← HG.out]; exact getM_no (Or.inl (by rw [HPL.out]; simp))
          go_wp2_with (first | ((try rw [HW3.out]); refine wpList_load_row rfl 28 _ rfl (W2.heap.size) rfl 28 (mc ms0 (.slice none 0 0)) (0, 0) _ r_m3.out Try.underlying28 rfl (sizeM _ _) ?_) | ((try rw [HW3.out]); refine wpList_store_row rfl 28 _ _ rfl (w.heap.size) (mc ms0 (.slice none 0 0)) rfl rfl 28 _ r_res3.out (sizeM _ _) rfl (oneM _ rfl) ?_))
          refine bodyPost_ret (res_row_tmp rfl _ _ (w.heap.size) 28 (mc ms0 (.slice none 0 0)) (0, 0) _ rfl (setRow_heap _ _ _ _ _ (0, 0) r_res3.out) Try.underlying28 rfl (sizeM _ _)) rfl ⟨.slice none 0 0, by rw [HN.out]; rfl, ?_, below_setRow B3.out (by omega) _⟩
          rw [HN.out]
          exact nil9 _ _ _
        · cases o4
          · have HN : Hid (G = (ms0, false)) := by show _ = _; rw [← HG.out]; exact getM_no (Or.inl (by rw [HPL.out]; simp))
            go_wp2_with (first | ((try rw [HW3.out]); refine wpList_load_row rfl 28 _ rfl (W2.heap.size) rfl 28 (mc ms0 (.slice none 0 0)) (0, 0) _ r_m3.out Try.underlying28 rfl (sizeM _ _) ?_) | ((try rw [HW3.out]); refine wpList_store_row rfl 28 _ _ rfl (w.heap.size) (mc ms0 (.slice none 0 0)) rfl rfl 28 _ r_res3.out (sizeM _ _) rfl (oneM _ rfl) ?_))
            refine bodyPost_ret (res_row_tmp rfl _ _ (w.heap.size) 28 (mc ms0 (.slice none 0 0)) (0, 0) _ rfl (setRow_heap _ _ _ _ _ (0, 0) r_res3.out) Try.underlying28 rfl (sizeM _ _)) rfl ⟨.slice none 0 0, by rw [HN.out]; rfl, ?_, below_setRow B3.out (by omega) _⟩
            rw [HN.out]
            exact nil9 _ _ _
          · cases o5
            · have HN : Hid (G = (ms0, false)) := by show _ = _; rw [← HG.out]; exact getM_no (Or.inl (by rw [HPL.out]; simp))
              go_wp2_with (first | ((try rw [HW3.out]); refine wpList_load_row rfl 28 _ rfl (W2.heap.size) rfl 28 (mc ms0 (.slice none 0 0)) (0, 0) _ r_m3.out Try.underlying28 rfl (sizeM _ _) ?_) | ((try rw [HW3.out]); refine wpList_store_row rfl 28 _ _ rfl (w.heap.size) (mc ms0 (.slice none 0 0)) rfl rfl 28 _ r_res3.out (sizeM _ _) rfl (oneM _ rfl) ?_))
              refine bodyPost_ret (res_row_tmp rfl _ _ (w.heap.size) 28 (mc ms0 (.slice none 0 0)) (0, 0) _ rfl (setRow_heap _ _ _ _ _ (0, 0) r_res3.out) Try.underlying28 rfl (sizeM _ _)) rfl ⟨.slice none 0 0, by rw [HN.out]; rfl, ?_, below_setRow B3.out (by omega) _⟩
              rw [HN.out]
              exact nil9 _ _ _
            · cases o6
              · have HN : Hid (G = (ms0, false)) := by show _ = _; rw [← HG.out]; exact getM_no (Or.inl (by rw [HPL.out]; simp))
                go_wp2_with (first | ((try rw [HW3.out]); refine wpList_load_row rfl 28 _ rfl (W2.heap.size) rfl 28 (mc ms0 (.slice none 0 0)) (0, 0) _ r_m3.out Try.underlying28 rfl (sizeM _ _) ?_) | ((try rw [HW3.out]); refine wpList_store_row rfl 28 _ _ rfl (w.heap.size) (mc ms0 (.slice none 0 0)) rfl rfl 28 _ r_res3.out (sizeM _ _) rfl (oneM _ rfl) ?_))
                refine bodyPost_ret (res_row_tmp rfl _ _ (w.heap.size) 28 (mc ms0 (.slice none 0 0)) (0, 0) _ rfl (setRow_heap _ _ _ _ _ (0, 0) r_res3.out) Try.underlying28 rfl (sizeM _ _)) rfl ⟨.slice none 0 0, by rw [HN.out]; rfl, ?_, below_setRow B3.out (by omega) _⟩
                rw [HN.out]
                exact nil9 _ _ _
              · by_cases hend : p6 = (xs.length : Int)
                · have hb1 : (p6 != (xs.length : Int)) = false := by rw [hend]; simp
                  have hb2 : (p6 == (xs.length : Int)) = true := by rw [hend]; simp
                  have HPL2 : Hid (place xs = (⟨k, f, t, ⟨s, r⟩, n, x⟩, true)) := by show _ = _; rw [HPL.out, hend]; simp
                  clear hend HPL
                  have q7 : ∀ W v1, Sl W v1 (ss x) → _ := fun W v1 h1 => msgok_spec W v1 ⟨k, f, t, ⟨s, r⟩, n, x⟩ h1 (by simp only; omega)
                  obtain ⟨A, hA⟩ : ∃ A, msgOk ⟨k, f, t, ⟨s, r⟩, n, x⟩ = A := ⟨_, rfl⟩
                  simp only [hA] at q7
                  have HA : Hid (msgOk ⟨k, f, t, ⟨s, r⟩, n, x⟩ = A) := hA
                  clear hA
                  go_wp2_with fail
                  rw [HW3.out]
                  clear a_res2_0 a_res2_1 a_res2_2 a_res2_3 a_res2_4 a_res2_5 a_res2_6
                  refine (q7 W3 _ o_x3.out.sl).mono ?_
                  rintro e W4 ⟨rfl, b4⟩
                  have z4 : W3.heap.size ≤ W4.heap.size := b4.size
                  have B4 : Hid (Below w.heap.size w W4) := B3.out.trans (b4.mono B3.out.size)
                  have r_res4 : Hid (W4.heap[w.heap.size]? = some (.cells #[.int .i64 0, .int .i64 0, .int .i64 0, .int .i64 0, .string ⟨#[]⟩, .int .i64 0, .slice none 0 0] 28 (0, 0))) := rowKeep r_res3.out b4
                  have r_m4 : Hid (W4.heap[W2.heap.size]? = some (.cells #[.int .i64 k, .int .i64 f, .int .i64 t, .int .i64 s, .string r, .int .i64 n, .slice ao_x L_x cap_x] 28 (0, 0))) := rowKeep r_m3.out b4
                  have o_x4 : Hid (Own W4 (W1.heap.size) (W2.heap.size) 9 (.slice ao_x L_x cap_x) (ss x)) := Own.later o_x3.out b4 (by omega)
                  have c_res4_0 : W4.cell? ⟨w.heap.size, 0, none⟩ = some (.int .i64 0) := row_at r_res4.out 0
                  have c_res4_1 : W4.cell? ⟨w.heap.size, 1, none⟩ = some (.int .i64 0) := row_at r_res4.out 1
                  have c_res4_2 : W4.cell? ⟨w.heap.size, 2, none⟩ = some (.int .i64 0) := row_at r_res4.out 2
                  have c_res4_3 : W4.cell? ⟨w.heap.size, 3, none⟩ = some (.int .i64 0) := row_at r_res4.out 3
                  have c_res4_4 : W4.cell? ⟨w.heap.size, 4, none⟩ = some (.string ⟨#[]⟩) := row_at r_res4.out 4
                  have c_res4_5 : W4.cell? ⟨w.heap.size, 5, none⟩ = some (.int .i64 0) := row_at r_res4.out 5
                  have c_res4_6 : W4.cell? ⟨w.heap.size, 6, none⟩ = some (.slice none 0 0) := row_at r_res4.out 6
                  have c_m4_0 : W4.cell? ⟨W2.heap.size, 0, none⟩ = some (.int .i64 k) := row_at r_m4.out 0
                  have c_m4_1 : W4.cell? ⟨W2.heap.size, 1, none⟩ = some (.int .i64 f) := row_at r_m4.out 1
                  have c_m4_2 : W4.cell? ⟨W2.heap.size, 2, none⟩ = some (.int .i64 t) := row_at r_m4.out 2
                  have c_m4_3 : W4.cell? ⟨W2.heap.size, 3, none⟩ = some (.int .i64 s) := row_at r_m4.out 3
                  have c_m4_4 : W4.cell? ⟨W2.heap.size, 4, none⟩ = some (.string r) := row_at r_m4.out 4
                  have c_m4_5 : W4.cell? ⟨W2.heap.size, 5, none⟩ = some (.int .i64 n) := row_at r_m4.out 5
                  have c_m4_6 : W4.cell? ⟨W2.heap.size, 6, none⟩ = some (.slice ao_x L_x cap_x) := row_at r_m4.out 6
                  clear r_res3 c_res3_0 c_res3_1 c_res3_2 c_res3_3 c_res3_4 c_res3_5 c_res3_6 r_m3 c_m3_0 c_m3_1 c_m3_2 c_m3_3 c_m3_4 c_m3_5 c_m3_6 o_x3
                  clear q7
                  cases A
                  · have HN : Hid (G = (ms0, false)) := by show _ = _; rw [← HG.out]; exact getM_no (Or.inr (by rw [HPL2.out]; exact HA.out))
                    go_wp2_with (first | (refine wpList_load_row rfl 28 _ rfl (W2.heap.size) rfl 28 (mc ms0 (.slice none 0 0)) (0, 0) _ r_m4.out Try.underlying28 rfl (sizeM _ _) ?_) | (refine wpList_store_row rfl 28 _ _ rfl (w.heap.size) (mc ms0 (.slice none 0 0)) rfl rfl 28 _ r_res4.out (sizeM _ _) rfl (oneM _ rfl) ?_))
                    refine bodyPost_ret (res_row_tmp rfl _ _ (w.heap.size) 28 (mc ms0 (.slice none 0 0)) (0, 0) _ rfl (setRow_heap _ _ _ _ _ (0, 0) r_res4.out) Try.underlying28 rfl (sizeM _ _)) rfl ⟨.slice none 0 0, by rw [HN.out]; rfl, ?_, below_setRow B4.out (by omega) _⟩
                    rw [HN.out]
                    exact nil9 _ _ _
                  · have HN : Hid (G = (⟨k, f, t, ⟨s, r⟩, n, x⟩, true)) := by show _ = _; rw [← HG.out]; exact getM_yes HPL2.out HA.out
                    go_wp2_with (first | (refine wpList_load_row rfl 28 _ rfl (W2.heap.size) rfl 28 (mc ⟨k, f, t, ⟨s, r⟩, n, x⟩ (.slice ao_x L_x cap_x)) (0, 0) _ r_m4.out Try.underlying28 rfl (sizeM _ _) ?_) | (refine wpList_store_row rfl 28 _ _ rfl (w.heap.size) (mc ⟨k, f, t, ⟨s, r⟩, n, x⟩ (.slice ao_x L_x cap_x)) rfl rfl 28 _ r_res4.out (sizeM _ _) rfl (oneM _ rfl) ?_))
                    refine bodyPost_ret (res_row_tmp rfl _ _ (w.heap.size) 28 (mc ⟨k, f, t, ⟨s, r⟩, n, x⟩ (.slice ao_x L_x cap_x)) (0, 0) _ rfl (setRow_heap _ _ _ _ _ (0, 0) r_res4.out) Try.underlying28 rfl (sizeM _ _)) rfl ⟨.slice ao_x L_x cap_x, by rw [HN.out]; rfl, ?_, below_setRow B4.out (by omega) _⟩
                    rw [HN.out]
                    exact (Own.setRow o_x4.out _ (by omega)).mono (by omega) (by rw [size_setRow]; omega)
                · have hb2 : (p6 == (xs.length : Int)) = false := by rw [beq_eq_false_iff_ne]; exact hend
                  have hb1 : (p6 != (xs.length : Int)) = true := by rw [bne, hb2]; rfl
                  have HN : Hid (G = (ms0, false)) := by show _ = _; rw [← HG.out]; exact getM_no (Or.inl (by rw [HPL.out]; simp [hend]))
                  go_wp2_with (first | ((try rw [HW3.out]); refine wpList_load_row rfl 28 _ rfl (W2.heap.size) rfl 28 (mc ms0 (.slice none 0 0)) (0, 0) _ r_m3.out Try.underlying28 rfl (sizeM _ _) ?_) | ((try rw [HW3.out]); refine wpList_store_row rfl 28 _ _ rfl (w.heap.size) (mc ms0 (.slice none 0 0)) rfl rfl 28 _ r_res3.out (sizeM _ _) rfl (oneM _ rfl) ?_))
                  refine bodyPost_ret (res_row_tmp rfl _ _ (w.heap.size) 28 (mc ms0 (.slice none 0 0)) (0, 0) _ rfl (setRow_heap _ _ _ _ _ (0, 0) r_res3.out) Try.underlying28 rfl (sizeM _ _)) rfl ⟨.slice none 0 0, by rw [HN.out]; rfl, ?_, below_setRow B3.out (by omega) _⟩
                  rw [HN.out]
                  exact nil9 _ _ _

end Go.Proofs.Yteemblfjghnooaa.Mg
