/- Texts in one: LhE. -/
import Derived.Test.YtccnhhdcdamgmaaDoorPk8
/- Chapter 11, the landed code: Extend. -/
namespace Go.Proofs.YtccnhhdcdamgmaaDoor.Lg
open Go.RowKit Go.Proofs.YtccnhhdcdamgmaaDoor.Mem Go.Proofs.YtccnhhdcdamgmaaDoor.Laws Go.Proofs.YtccnhhdcdamgmaaDoor.Bytes Go.Proofs.YtccnhhdcdamgmaaDoor.Sha Go.Proofs.YtccnhhdcdamgmaaDoor.Tr Go.Proofs.YtccnhhdcdamgmaaDoor.He
set_option linter.unusedVariables false
set_option linter.unusedSimpArgs false

set_option maxRecDepth 1000000 in
set_option maxHeartbeats 8000000 in
theorem extend_impl (w : World) (v vt vx : Value) (l x : List ByteArray) (hd h : Hd) (t : List Hd) {a0 a1 a2 a3 : Addr} (hG : Glob w) (hF : Is.Four w a0 a1 a2 a3) (hs : Sl w v (ss l)) (ht : Sh w vt t) (hsx : Sl w vx (ss x)) (hl : l.length ≤ 1000000000) (htl : t.length ≤ 1000000000) (hx : x.length ≤ 1000000000) (hz : ∀ s ∈ l, s.size ≤ 10000000000) (hzx : ∀ s ∈ x, s.size ≤ 10000000000) (hdr : hd.r.size ≤ 1000000000000) (hhr : h.r.size ≤ 1000000000000) :
    Calls Tryd.prog 11 #[.agg #[v, .int .i64 hd.n, .string hd.r], vt, .agg #[.int .i64 h.n, .string h.r], vx] w fun e w' => ∃ v', e = .returned (.tuple #[.agg #[v', .int .i64 (extend l hd t h x).2.1.n, .string (extend l hd t h x).2.1.r], .int .i64 (extend l hd t h x).2.2]) ∧ Own w' w.heap.size w'.heap.size 9 v' (ss (extend l hd t h x).1) ∧ Below w.heap.size w w' := by
  have HS : Hid (Sl w v (ss l)) := hs
  have HSX : Hid (Sl w vx (ss x)) := hsx
  have HT : Hid (Sh w vt t) := ht
  have HG : Hid (Glob w) := hG
  have HF : Hid (Is.Four w a0 a1 a2 a3) := hF
  obtain ⟨ao0, cap0, rfl, hc0⟩ := hs.form
  obtain ⟨ao1, cap1, rfl, hc1⟩ := hsx.form
  obtain ⟨ao2, cap2, rfl, hc2⟩ := ht.form
  simp only [ss_len] at *
  clear hs hsx ht hG hF
  have B0 : Hid (Below w.heap.size w w) := Below.refl _ _
  obtain ⟨W1, HW1, b1, y1, hS1, r_a1, r_h1, r_res1⟩ : ∃ X, Hid ((((w.alloc (.cells #[.slice ao0 l.length cap0, .int .i64 hd.n, .string hd.r] 28)).alloc (.cells #[.int .i64 h.n, .string h.r] 26)).alloc (.cells #[.slice none 0 0, .int .i64 0, .string ⟨#[]⟩] 28)) = X) ∧ Below w.heap.size w X ∧ w.heap.size + 3 ≤ X.heap.size ∧ Hid (X.heap.size = w.heap.size + 1 + 1 + 1) ∧ Hid (X.heap[w.heap.size]? = some (.cells #[.slice ao0 l.length cap0, .int .i64 hd.n, .string hd.r] 28 (0, 0))) ∧ Hid (X.heap[w.heap.size + 1]? = some (.cells #[.int .i64 h.n, .string h.r] 26 (0, 0))) ∧ Hid (X.heap[w.heap.size + 1 + 1]? = some (.cells #[.slice none 0 0, .int .i64 0, .string ⟨#[]⟩] 28 (0, 0))) := ⟨_, rfl, ((((Below.refl _ _).alloc (Nat.le_refl _) _).alloc (by simp) _).alloc (by simp; omega) _), by simp, by show _ = _; simp, (by show _ = _; exact alloc_nth3_0 w _ _ _), (by show _ = _; exact alloc_nth3_1 w _ _ _), (by show _ = _; exact alloc_nth3_2 w _ _ _)⟩
  have z1 : w.heap.size ≤ W1.heap.size := b1.size
  have B1 : Hid (Below w.heap.size w W1) := B0.out.trans (b1.mono B0.out.size)
  have c_a1_0 : W1.cell? ⟨w.heap.size, 0, none⟩ = some (.slice ao0 l.length cap0) := row_at r_a1.out 0
  have c_a1_1 : W1.cell? ⟨w.heap.size, 1, none⟩ = some (.int .i64 hd.n) := row_at r_a1.out 1
  have c_a1_2 : W1.cell? ⟨w.heap.size, 2, none⟩ = some (.string hd.r) := row_at r_a1.out 2
  have c_h1_0 : W1.cell? ⟨w.heap.size + 1, 0, none⟩ = some (.int .i64 h.n) := row_at r_h1.out 0
  have c_h1_1 : W1.cell? ⟨w.heap.size + 1, 1, none⟩ = some (.string h.r) := row_at r_h1.out 1
  have c_res1_0 : W1.cell? ⟨w.heap.size + 1 + 1, 0, none⟩ = some (.slice none 0 0) := row_at r_res1.out 0
  have c_res1_1 : W1.cell? ⟨w.heap.size + 1 + 1, 1, none⟩ = some (.int .i64 0) := row_at r_res1.out 1
  have c_res1_2 : W1.cell? ⟨w.heap.size + 1 + 1, 2, none⟩ = some (.string ⟨#[]⟩) := row_at r_res1.out 2
  have q1 : ∀ W v1 v2 v3, Glob W → Is.Four W a0 a1 a2 a3 → Sl W v1 (ss l) → Sh W v2 t → Sl W v3 (ss x) → _ := fun W v1 v2 v3 g1 g2 h1 h2 h3 => extended_impl W v1 v2 v3 l x hd h t g1 g2 h1 h2 h3 hl htl hx hz hzx hhr
  have q2 : ∀ W v1, Sl W v1 (ss l) → _ := fun W v1 h1 => ownlog_impl W v1 l hd h1 hl (fun s hs => by have := hz s hs; omega) hdr
  obtain ⟨R, hR⟩ : ∃ R, extend l hd t h x = R := ⟨_, rfl⟩
  simp only [hR] at q1
  rw [hR]
  clear hR hz hzx hdr hhr
  go_enter Tryd.func11, Tryd.ntmps11
  go_wp2_with fail
  rw [HW1.out]
  refine (q1 W1 _ _ _ (HG.out.later B1.out) (HF.out.later B1.out) (HS.out.later B1.out) (HT.out.later B1.out) (HSX.out.later B1.out)).mono ?_
  rintro e W2 ⟨hor, b2⟩
  have z2 : W1.heap.size ≤ W2.heap.size := b2.size
  have B2 : Hid (Below w.heap.size w W2) := B1.out.trans (b2.mono B1.out.size)
  have r_a2 : Hid (W2.heap[w.heap.size]? = some (.cells #[.slice ao0 l.length cap0, .int .i64 hd.n, .string hd.r] 28 (0, 0))) := rowKeep r_a1.out b2
  have r_h2 : Hid (W2.heap[w.heap.size + 1]? = some (.cells #[.int .i64 h.n, .string h.r] 26 (0, 0))) := rowKeep r_h1.out b2
  have r_res2 : Hid (W2.heap[w.heap.size + 1 + 1]? = some (.cells #[.slice none 0 0, .int .i64 0, .string ⟨#[]⟩] 28 (0, 0))) := rowKeep r_res1.out b2
  have c_a2_0 : W2.cell? ⟨w.heap.size, 0, none⟩ = some (.slice ao0 l.length cap0) := row_at r_a2.out 0
  have c_a2_1 : W2.cell? ⟨w.heap.size, 1, none⟩ = some (.int .i64 hd.n) := row_at r_a2.out 1
  have c_a2_2 : W2.cell? ⟨w.heap.size, 2, none⟩ = some (.string hd.r) := row_at r_a2.out 2
  have c_h2_0 : W2.cell? ⟨w.heap.size + 1, 0, none⟩ = some (.int .i64 h.n) := row_at r_h2.out 0
  have c_h2_1 : W2.cell? ⟨w.heap.size + 1, 1, none⟩ = some (.string h.r) := row_at r_h2.out 1
  have c_res2_0 : W2.cell? ⟨w.heap.size + 1 + 1, 0, none⟩ = some (.slice none 0 0) := row_at r_res2.out 0
  have c_res2_1 : W2.cell? ⟨w.heap.size + 1 + 1, 1, none⟩ = some (.int .i64 0) := row_at r_res2.out 1
  have c_res2_2 : W2.cell? ⟨w.heap.size + 1 + 1, 2, none⟩ = some (.string ⟨#[]⟩) := row_at r_res2.out 2
  clear r_a1 c_a1_0 c_a1_1 c_a1_2 r_h1 c_h1_0 c_h1_1 r_res1 c_res1_0 c_res1_1 c_res1_2
  rcases hor with ⟨c, a, hw, hR, rfl⟩ | ⟨v_n, hR, rfl, o_n2⟩
  · have HN : Hid (R = (l, hd, c)) := hR
    clear hR
    have a_a2_0 : ∀ o, (W2.alloc o).cell? ⟨w.heap.size, 0, none⟩ = some (.slice ao0 l.length cap0) := fun o => keepR c_a2_0 ((Below.refl _ _).alloc (Nat.le_refl _) o)
    have a_a2_1 : ∀ o, (W2.alloc o).cell? ⟨w.heap.size, 1, none⟩ = some (.int .i64 hd.n) := fun o => keepR c_a2_1 ((Below.refl _ _).alloc (Nat.le_refl _) o)
    have a_a2_2 : ∀ o, (W2.alloc o).cell? ⟨w.heap.size, 2, none⟩ = some (.string hd.r) := fun o => keepR c_a2_2 ((Below.refl _ _).alloc (Nat.le_refl _) o)
    have a_h2_0 : ∀ o, (W2.alloc o).cell? ⟨w.heap.size + 1, 0, none⟩ = some (.int .i64 h.n) := fun o => keepR c_h2_0 ((Below.refl _ _).alloc (Nat.le_refl _) o)
    have a_h2_1 : ∀ o, (W2.alloc o).cell? ⟨w.heap.size + 1, 1, none⟩ = some (.string h.r) := fun o => keepR c_h2_1 ((Below.refl _ _).alloc (Nat.le_refl _) o)
    have a_res2_0 : ∀ o, (W2.alloc o).cell? ⟨w.heap.size + 1 + 1, 0, none⟩ = some (.slice none 0 0) := fun o => keepR c_res2_0 ((Below.refl _ _).alloc (Nat.le_refl _) o)
    have a_res2_1 : ∀ o, (W2.alloc o).cell? ⟨w.heap.size + 1 + 1, 1, none⟩ = some (.int .i64 0) := fun o => keepR c_res2_1 ((Below.refl _ _).alloc (Nat.le_refl _) o)
    have a_res2_2 : ∀ o, (W2.alloc o).cell? ⟨w.heap.size + 1 + 1, 2, none⟩ = some (.string ⟨#[]⟩) := fun o => keepR c_res2_2 ((Below.refl _ _).alloc (Nat.le_refl _) o)
    obtain ⟨W3, HW3, b3, y3, hS3, r_new3⟩ : ∃ X, Hid ((W2.alloc (.cells #[.slice none 0 0, .int .i64 0, .string ⟨#[]⟩] 28)) = X) ∧ Below W2.heap.size W2 X ∧ W2.heap.size + 1 ≤ X.heap.size ∧ Hid (X.heap.size = W2.heap.size + 1) ∧ Hid (X.heap[W2.heap.size]? = some (.cells #[.slice none 0 0, .int .i64 0, .string ⟨#[]⟩] 28 (0, 0))) := ⟨_, rfl, ((Below.refl _ _).alloc (Nat.le_refl _) _), by simp, by show _ = _; simp, (by show _ = _; exact alloc_nth1_0 W2 _)⟩
    have z3 : W2.heap.size ≤ W3.heap.size := b3.size
    have B3 : Hid (Below w.heap.size w W3) := B2.out.trans (b3.mono B2.out.size)
    have r_a3 : Hid (W3.heap[w.heap.size]? = some (.cells #[.slice ao0 l.length cap0, .int .i64 hd.n, .string hd.r] 28 (0, 0))) := rowKeep r_a2.out b3
    have r_h3 : Hid (W3.heap[w.heap.size + 1]? = some (.cells #[.int .i64 h.n, .string h.r] 26 (0, 0))) := rowKeep r_h2.out b3
    have r_res3 : Hid (W3.heap[w.heap.size + 1 + 1]? = some (.cells #[.slice none 0 0, .int .i64 0, .string ⟨#[]⟩] 28 (0, 0))) := rowKeep r_res2.out b3
    have c_a3_0 : W3.cell? ⟨w.heap.size, 0, none⟩ = some (.slice ao0 l.length cap0) := row_at r_a3.out 0
    have c_a3_1 : W3.cell? ⟨w.heap.size, 1, none⟩ = some (.int .i64 hd.n) := row_at r_a3.out 1
    have c_a3_2 : W3.cell? ⟨w.heap.size, 2, none⟩ = some (.string hd.r) := row_at r_a3.out 2
    have c_h3_0 : W3.cell? ⟨w.heap.size + 1, 0, none⟩ = some (.int .i64 h.n) := row_at r_h3.out 0
    have c_h3_1 : W3.cell? ⟨w.heap.size + 1, 1, none⟩ = some (.string h.r) := row_at r_h3.out 1
    have c_res3_0 : W3.cell? ⟨w.heap.size + 1 + 1, 0, none⟩ = some (.slice none 0 0) := row_at r_res3.out 0
    have c_res3_1 : W3.cell? ⟨w.heap.size + 1 + 1, 1, none⟩ = some (.int .i64 0) := row_at r_res3.out 1
    have c_res3_2 : W3.cell? ⟨w.heap.size + 1 + 1, 2, none⟩ = some (.string ⟨#[]⟩) := row_at r_res3.out 2
    have c_new3_0 : W3.cell? ⟨W2.heap.size, 0, none⟩ = some (.slice none 0 0) := row_at r_new3.out 0
    have c_new3_1 : W3.cell? ⟨W2.heap.size, 1, none⟩ = some (.int .i64 0) := row_at r_new3.out 1
    have c_new3_2 : W3.cell? ⟨W2.heap.size, 2, none⟩ = some (.string ⟨#[]⟩) := row_at r_new3.out 2
    clear r_a2 c_a2_0 c_a2_1 c_a2_2 r_h2 c_h2_0 c_h2_1 r_res2 c_res2_0 c_res2_1 c_res2_2
    have hq : ∀ W, Is.Four W a0 a1 a2 a3 → Calls Tryd.prog 55 #[Is.refV h.n h.r a] W fun e w' => e = .returned (.int .i64 c) ∧ Below W.heap.size W w' := by
      intro W g
      rcases hw with ⟨rfl, rfl⟩ | ⟨rfl, rfl⟩ | ⟨rfl, rfl⟩ | ⟨rfl, rfl⟩
      · exact Is.code1 W _ _ g
      · exact Is.code2 W _ _ g
      · exact Is.code3 W _ _ g
      · exact Is.code4 W _ _ g
    have hc0 : ¬ c = 0 := by
      rcases hw with ⟨rfl, _⟩ | ⟨rfl, _⟩ | ⟨rfl, _⟩ | ⟨rfl, _⟩ <;> omega
    clear hw
    have cn : (c == 0) = false := by rw [beq_eq_false_iff_ne]; exact hc0
    have cm : (c != 0) = true := by rw [bne, cn]; rfl
    go_wp2_with fail
    rw [HW3.out]
    clear a_a2_0 a_a2_1 a_a2_2 a_h2_0 a_h2_1 a_res2_0 a_res2_1 a_res2_2
    refine (hq W3 (HF.out.later B3.out)).mono ?_
    rintro e W4 ⟨rfl, b4⟩
    have z4 : W3.heap.size ≤ W4.heap.size := b4.size
    have B4 : Hid (Below w.heap.size w W4) := B3.out.trans (b4.mono B3.out.size)
    have r_a4 : Hid (W4.heap[w.heap.size]? = some (.cells #[.slice ao0 l.length cap0, .int .i64 hd.n, .string hd.r] 28 (0, 0))) := rowKeep r_a3.out b4
    have r_h4 : Hid (W4.heap[w.heap.size + 1]? = some (.cells #[.int .i64 h.n, .string h.r] 26 (0, 0))) := rowKeep r_h3.out b4
    have r_res4 : Hid (W4.heap[w.heap.size + 1 + 1]? = some (.cells #[.slice none 0 0, .int .i64 0, .string ⟨#[]⟩] 28 (0, 0))) := rowKeep r_res3.out b4
    have r_new4 : Hid (W4.heap[W2.heap.size]? = some (.cells #[.slice none 0 0, .int .i64 0, .string ⟨#[]⟩] 28 (0, 0))) := rowKeep r_new3.out b4
    have c_a4_0 : W4.cell? ⟨w.heap.size, 0, none⟩ = some (.slice ao0 l.length cap0) := row_at r_a4.out 0
    have c_a4_1 : W4.cell? ⟨w.heap.size, 1, none⟩ = some (.int .i64 hd.n) := row_at r_a4.out 1
    have c_a4_2 : W4.cell? ⟨w.heap.size, 2, none⟩ = some (.string hd.r) := row_at r_a4.out 2
    have c_h4_0 : W4.cell? ⟨w.heap.size + 1, 0, none⟩ = some (.int .i64 h.n) := row_at r_h4.out 0
    have c_h4_1 : W4.cell? ⟨w.heap.size + 1, 1, none⟩ = some (.string h.r) := row_at r_h4.out 1
    have c_res4_0 : W4.cell? ⟨w.heap.size + 1 + 1, 0, none⟩ = some (.slice none 0 0) := row_at r_res4.out 0
    have c_res4_1 : W4.cell? ⟨w.heap.size + 1 + 1, 1, none⟩ = some (.int .i64 0) := row_at r_res4.out 1
    have c_res4_2 : W4.cell? ⟨w.heap.size + 1 + 1, 2, none⟩ = some (.string ⟨#[]⟩) := row_at r_res4.out 2
    have c_new4_0 : W4.cell? ⟨W2.heap.size, 0, none⟩ = some (.slice none 0 0) := row_at r_new4.out 0
    have c_new4_1 : W4.cell? ⟨W2.heap.size, 1, none⟩ = some (.int .i64 0) := row_at r_new4.out 1
    have c_new4_2 : W4.cell? ⟨W2.heap.size, 2, none⟩ = some (.string ⟨#[]⟩) := row_at r_new4.out 2
    clear r_a3 c_a3_0 c_a3_1 c_a3_2 r_h3 c_h3_0 c_h3_1 r_res3 c_res3_0 c_res3_1 c_res3_2 r_new3 c_new3_0 c_new3_1 c_new3_2
    go_wp2_with fail
    refine (q2 W4 _ (HS.out.later B4.out)).mono ?_
    rintro e W5 ⟨v_s, rfl, o_s5, b5⟩
    obtain ⟨ao_s, L_s, cap_s, rfl, hL_s, hM_s⟩ := o_s5.form
    have o_s5 : Hid (Own W5 W4.heap.size W5.heap.size 9 (.slice ao_s L_s cap_s) (ss l)) := o_s5
    clear hL_s hM_s
    have z5 : W4.heap.size ≤ W5.heap.size := b5.size
    have B5 : Hid (Below w.heap.size w W5) := B4.out.trans (b5.mono B4.out.size)
    have r_a5 : Hid (W5.heap[w.heap.size]? = some (.cells #[.slice ao0 l.length cap0, .int .i64 hd.n, .string hd.r] 28 (0, 0))) := rowKeep r_a4.out b5
    have r_h5 : Hid (W5.heap[w.heap.size + 1]? = some (.cells #[.int .i64 h.n, .string h.r] 26 (0, 0))) := rowKeep r_h4.out b5
    have r_res5 : Hid (W5.heap[w.heap.size + 1 + 1]? = some (.cells #[.slice none 0 0, .int .i64 0, .string ⟨#[]⟩] 28 (0, 0))) := rowKeep r_res4.out b5
    have r_new5 : Hid (W5.heap[W2.heap.size]? = some (.cells #[.slice none 0 0, .int .i64 0, .string ⟨#[]⟩] 28 (0, 0))) := rowKeep r_new4.out b5
    have c_a5_0 : W5.cell? ⟨w.heap.size, 0, none⟩ = some (.slice ao0 l.length cap0) := row_at r_a5.out 0
    have c_a5_1 : W5.cell? ⟨w.heap.size, 1, none⟩ = some (.int .i64 hd.n) := row_at r_a5.out 1
    have c_a5_2 : W5.cell? ⟨w.heap.size, 2, none⟩ = some (.string hd.r) := row_at r_a5.out 2
    have c_h5_0 : W5.cell? ⟨w.heap.size + 1, 0, none⟩ = some (.int .i64 h.n) := row_at r_h5.out 0
    have c_h5_1 : W5.cell? ⟨w.heap.size + 1, 1, none⟩ = some (.string h.r) := row_at r_h5.out 1
    have c_res5_0 : W5.cell? ⟨w.heap.size + 1 + 1, 0, none⟩ = some (.slice none 0 0) := row_at r_res5.out 0
    have c_res5_1 : W5.cell? ⟨w.heap.size + 1 + 1, 1, none⟩ = some (.int .i64 0) := row_at r_res5.out 1
    have c_res5_2 : W5.cell? ⟨w.heap.size + 1 + 1, 2, none⟩ = some (.string ⟨#[]⟩) := row_at r_res5.out 2
    have c_new5_0 : W5.cell? ⟨W2.heap.size, 0, none⟩ = some (.slice none 0 0) := row_at r_new5.out 0
    have c_new5_1 : W5.cell? ⟨W2.heap.size, 1, none⟩ = some (.int .i64 0) := row_at r_new5.out 1
    have c_new5_2 : W5.cell? ⟨W2.heap.size, 2, none⟩ = some (.string ⟨#[]⟩) := row_at r_new5.out 2
    clear r_a4 c_a4_0 c_a4_1 c_a4_2 r_h4 c_h4_0 c_h4_1 r_res4 c_res4_0 c_res4_1 c_res4_2 r_new4 c_new4_0 c_new4_1 c_new4_2
    go_wp2_with (refine wpList_store_row rfl 28 _ _ rfl (w.heap.size + 1 + 1) (lc (.slice ao_s L_s cap_s) hd) rfl rfl 28 _ r_res5.out (sizeL _ _) rfl (oneL _ rfl) ?_)
    refine bodyPost_ret (res_row_tmp rfl _ _ (w.heap.size + 1 + 1) 28 (lc (.slice ao_s L_s cap_s) hd) (0, 0) _ rfl (setRow_heap _ _ _ _ _ (0, 0) r_res5.out) Tryd.underlying28 rfl (sizeL _ _)) rfl ⟨.slice ao_s L_s cap_s, by rw [HN.out]; rfl, ?_, below_setRow B5.out (by omega) _⟩
    rw [HN.out]
    exact (Own.setRow o_s5.out _ (by omega)).mono (by omega) (by rw [size_setRow]; omega)
  · have HN : Hid (R = (l ++ x, h, 0)) := hR
    clear hR
    obtain ⟨ao_n, L_n, cap_n, rfl, hL_n, hM_n⟩ := o_n2.form
    have o_n2 : Hid (Own W2 W1.heap.size W2.heap.size 9 (.slice ao_n L_n cap_n) (ss (l ++ x))) := o_n2
    clear hL_n hM_n
    have a_a2_0 : ∀ o, (W2.alloc o).cell? ⟨w.heap.size, 0, none⟩ = some (.slice ao0 l.length cap0) := fun o => keepR c_a2_0 ((Below.refl _ _).alloc (Nat.le_refl _) o)
    have a_a2_1 : ∀ o, (W2.alloc o).cell? ⟨w.heap.size, 1, none⟩ = some (.int .i64 hd.n) := fun o => keepR c_a2_1 ((Below.refl _ _).alloc (Nat.le_refl _) o)
    have a_a2_2 : ∀ o, (W2.alloc o).cell? ⟨w.heap.size, 2, none⟩ = some (.string hd.r) := fun o => keepR c_a2_2 ((Below.refl _ _).alloc (Nat.le_refl _) o)
    have a_h2_0 : ∀ o, (W2.alloc o).cell? ⟨w.heap.size + 1, 0, none⟩ = some (.int .i64 h.n) := fun o => keepR c_h2_0 ((Below.refl _ _).alloc (Nat.le_refl _) o)
    have a_h2_1 : ∀ o, (W2.alloc o).cell? ⟨w.heap.size + 1, 1, none⟩ = some (.string h.r) := fun o => keepR c_h2_1 ((Below.refl _ _).alloc (Nat.le_refl _) o)
    have a_res2_0 : ∀ o, (W2.alloc o).cell? ⟨w.heap.size + 1 + 1, 0, none⟩ = some (.slice none 0 0) := fun o => keepR c_res2_0 ((Below.refl _ _).alloc (Nat.le_refl _) o)
    have a_res2_1 : ∀ o, (W2.alloc o).cell? ⟨w.heap.size + 1 + 1, 1, none⟩ = some (.int .i64 0) := fun o => keepR c_res2_1 ((Below.refl _ _).alloc (Nat.le_refl _) o)
    have a_res2_2 : ∀ o, (W2.alloc o).cell? ⟨w.heap.size + 1 + 1, 2, none⟩ = some (.string ⟨#[]⟩) := fun o => keepR c_res2_2 ((Below.refl _ _).alloc (Nat.le_refl _) o)
    obtain ⟨W3, HW3, b3, y3, hS3, r_new3⟩ : ∃ X, Hid ((W2.alloc (.cells #[.slice ao_n L_n cap_n, .int .i64 h.n, .string h.r] 28)) = X) ∧ Below W2.heap.size W2 X ∧ W2.heap.size + 1 ≤ X.heap.size ∧ Hid (X.heap.size = W2.heap.size + 1) ∧ Hid (X.heap[W2.heap.size]? = some (.cells #[.slice ao_n L_n cap_n, .int .i64 h.n, .string h.r] 28 (0, 0))) := ⟨_, rfl, ((Below.refl _ _).alloc (Nat.le_refl _) _), by simp, by show _ = _; simp, (by show _ = _; exact alloc_nth1_0 W2 _)⟩
    have z3 : W2.heap.size ≤ W3.heap.size := b3.size
    have B3 : Hid (Below w.heap.size w W3) := B2.out.trans (b3.mono B2.out.size)
    have r_a3 : Hid (W3.heap[w.heap.size]? = some (.cells #[.slice ao0 l.length cap0, .int .i64 hd.n, .string hd.r] 28 (0, 0))) := rowKeep r_a2.out b3
    have r_h3 : Hid (W3.heap[w.heap.size + 1]? = some (.cells #[.int .i64 h.n, .string h.r] 26 (0, 0))) := rowKeep r_h2.out b3
    have r_res3 : Hid (W3.heap[w.heap.size + 1 + 1]? = some (.cells #[.slice none 0 0, .int .i64 0, .string ⟨#[]⟩] 28 (0, 0))) := rowKeep r_res2.out b3
    have o_n3 : Hid (Own W3 (W1.heap.size) (W2.heap.size) 9 (.slice ao_n L_n cap_n) (ss (l ++ x))) := Own.later o_n2.out b3 (by omega)
    have c_a3_0 : W3.cell? ⟨w.heap.size, 0, none⟩ = some (.slice ao0 l.length cap0) := row_at r_a3.out 0
    have c_a3_1 : W3.cell? ⟨w.heap.size, 1, none⟩ = some (.int .i64 hd.n) := row_at r_a3.out 1
    have c_a3_2 : W3.cell? ⟨w.heap.size, 2, none⟩ = some (.string hd.r) := row_at r_a3.out 2
    have c_h3_0 : W3.cell? ⟨w.heap.size + 1, 0, none⟩ = some (.int .i64 h.n) := row_at r_h3.out 0
    have c_h3_1 : W3.cell? ⟨w.heap.size + 1, 1, none⟩ = some (.string h.r) := row_at r_h3.out 1
    have c_res3_0 : W3.cell? ⟨w.heap.size + 1 + 1, 0, none⟩ = some (.slice none 0 0) := row_at r_res3.out 0
    have c_res3_1 : W3.cell? ⟨w.heap.size + 1 + 1, 1, none⟩ = some (.int .i64 0) := row_at r_res3.out 1
    have c_res3_2 : W3.cell? ⟨w.heap.size + 1 + 1, 2, none⟩ = some (.string ⟨#[]⟩) := row_at r_res3.out 2
    have c_new3_0 : W3.cell? ⟨W2.heap.size, 0, none⟩ = some (.slice ao_n L_n cap_n) := row_at r_new3.out 0
    have c_new3_1 : W3.cell? ⟨W2.heap.size, 1, none⟩ = some (.int .i64 h.n) := row_at r_new3.out 1
    have c_new3_2 : W3.cell? ⟨W2.heap.size, 2, none⟩ = some (.string h.r) := row_at r_new3.out 2
    clear r_a2 c_a2_0 c_a2_1 c_a2_2 r_h2 c_h2_0 c_h2_1 r_res2 c_res2_0 c_res2_1 c_res2_2 o_n2
    go_wp2_with fail
    rw [HW3.out]
    clear a_a2_0 a_a2_1 a_a2_2 a_h2_0 a_h2_1 a_res2_0 a_res2_1 a_res2_2
    refine (Is.code0 W3 (HF.out.later B3.out)).mono ?_
    rintro e W4 ⟨rfl, b4⟩
    have z4 : W3.heap.size ≤ W4.heap.size := b4.size
    have B4 : Hid (Below w.heap.size w W4) := B3.out.trans (b4.mono B3.out.size)
    have r_a4 : Hid (W4.heap[w.heap.size]? = some (.cells #[.slice ao0 l.length cap0, .int .i64 hd.n, .string hd.r] 28 (0, 0))) := rowKeep r_a3.out b4
    have r_h4 : Hid (W4.heap[w.heap.size + 1]? = some (.cells #[.int .i64 h.n, .string h.r] 26 (0, 0))) := rowKeep r_h3.out b4
    have r_res4 : Hid (W4.heap[w.heap.size + 1 + 1]? = some (.cells #[.slice none 0 0, .int .i64 0, .string ⟨#[]⟩] 28 (0, 0))) := rowKeep r_res3.out b4
    have r_new4 : Hid (W4.heap[W2.heap.size]? = some (.cells #[.slice ao_n L_n cap_n, .int .i64 h.n, .string h.r] 28 (0, 0))) := rowKeep r_new3.out b4
    have o_n4 : Hid (Own W4 (W1.heap.size) (W2.heap.size) 9 (.slice ao_n L_n cap_n) (ss (l ++ x))) := Own.later o_n3.out b4 (by omega)
    have c_a4_0 : W4.cell? ⟨w.heap.size, 0, none⟩ = some (.slice ao0 l.length cap0) := row_at r_a4.out 0
    have c_a4_1 : W4.cell? ⟨w.heap.size, 1, none⟩ = some (.int .i64 hd.n) := row_at r_a4.out 1
    have c_a4_2 : W4.cell? ⟨w.heap.size, 2, none⟩ = some (.string hd.r) := row_at r_a4.out 2
    have c_h4_0 : W4.cell? ⟨w.heap.size + 1, 0, none⟩ = some (.int .i64 h.n) := row_at r_h4.out 0
    have c_h4_1 : W4.cell? ⟨w.heap.size + 1, 1, none⟩ = some (.string h.r) := row_at r_h4.out 1
    have c_res4_0 : W4.cell? ⟨w.heap.size + 1 + 1, 0, none⟩ = some (.slice none 0 0) := row_at r_res4.out 0
    have c_res4_1 : W4.cell? ⟨w.heap.size + 1 + 1, 1, none⟩ = some (.int .i64 0) := row_at r_res4.out 1
    have c_res4_2 : W4.cell? ⟨w.heap.size + 1 + 1, 2, none⟩ = some (.string ⟨#[]⟩) := row_at r_res4.out 2
    have c_new4_0 : W4.cell? ⟨W2.heap.size, 0, none⟩ = some (.slice ao_n L_n cap_n) := row_at r_new4.out 0
    have c_new4_1 : W4.cell? ⟨W2.heap.size, 1, none⟩ = some (.int .i64 h.n) := row_at r_new4.out 1
    have c_new4_2 : W4.cell? ⟨W2.heap.size, 2, none⟩ = some (.string h.r) := row_at r_new4.out 2
    clear r_a3 c_a3_0 c_a3_1 c_a3_2 r_h3 c_h3_0 c_h3_1 r_res3 c_res3_0 c_res3_1 c_res3_2 r_new3 c_new3_0 c_new3_1 c_new3_2 o_n3
    go_wp2_with (first | (refine wpList_load_row rfl 28 _ rfl (W2.heap.size) rfl 28 (lc (.slice ao_n L_n cap_n) h) (0, 0) _ r_new4.out Tryd.underlying28 rfl (sizeL _ _) ?_) | (refine wpList_store_row rfl 28 _ _ rfl (w.heap.size + 1 + 1) (lc (.slice ao_n L_n cap_n) h) rfl rfl 28 _ r_res4.out (sizeL _ _) rfl (oneL _ rfl) ?_))
    refine bodyPost_ret (res_row_tmp rfl _ _ (w.heap.size + 1 + 1) 28 (lc (.slice ao_n L_n cap_n) h) (0, 0) _ rfl (setRow_heap _ _ _ _ _ (0, 0) r_res4.out) Tryd.underlying28 rfl (sizeL _ _)) rfl ⟨.slice ao_n L_n cap_n, by rw [HN.out]; rfl, ?_, below_setRow B4.out (by omega) _⟩
    rw [HN.out]
    exact (Own.setRow o_n4.out _ (by omega)).mono (by omega) (by rw [size_setRow]; omega)

end Go.Proofs.YtccnhhdcdamgmaaDoor.Lg
