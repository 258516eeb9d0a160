/- Chapter 11, the specification's side: what a log takes; what it proves. -/
import Derived.Test.YtccnhhdcdamgmaaDoorLg1
import Derived.Test.YtccnhhdcdamgmaaDoorHe3
import Derived.Test.YtccnhhdcdamgmaaDoorTr8
import Derived.Test.YtccnhhdcdamgmaaDoorNth
namespace Go.Proofs.YtccnhhdcdamgmaaDoor.Lg
open Go.RowKit Go.Proofs.YtccnhhdcdamgmaaDoor.Mem Go.Proofs.YtccnhhdcdamgmaaDoor.Laws Go.Proofs.YtccnhhdcdamgmaaDoor.Bytes Go.Proofs.YtccnhhdcdamgmaaDoor.Sha Go.Proofs.YtccnhhdcdamgmaaDoor.Tr Go.Proofs.YtccnhhdcdamgmaaDoor.He
set_option linter.unusedVariables false
set_option linter.unusedSimpArgs false

/-- what Extend answers -/
def extend (l : List ByteArray) (hd : Hd) (t : List Hd) (h : Hd) (x : List ByteArray) : List ByteArray × Hd × Int :=
  if logOk l hd = true ∧ okH h = true ∧ h.n = ((l ++ x).length : Int) then
    if signed t h = true then
      if x.length = 0 then (l, hd, 3) else if eqH h (headOf (l ++ x)) = true then (l ++ x, h, 0) else (l, hd, 4)
    else (l, hd, 2)
  else (l, hd, 1)
theorem extend1 {l : List ByteArray} {hd : Hd} {h : Hd} {x : List ByteArray} (hk : ¬ (logOk l hd = true ∧ okH h = true ∧ h.n = ((l ++ x).length : Int))) (t : List Hd) : extend l hd t h x = (l, hd, 1) := by unfold extend; rw [if_neg hk]
theorem extend2 {l : List ByteArray} {hd : Hd} {t : List Hd} {h : Hd} {x : List ByteArray} (hk : logOk l hd = true ∧ okH h = true ∧ h.n = ((l ++ x).length : Int)) (hs : signed t h = false) : extend l hd t h x = (l, hd, 2) := by unfold extend; rw [if_pos hk, if_neg (by simp [hs])]
theorem extend3 {l : List ByteArray} {hd : Hd} {t : List Hd} {h : Hd} {x : List ByteArray} (hk : logOk l hd = true ∧ okH h = true ∧ h.n = ((l ++ x).length : Int)) (hs : signed t h = true) (hx : x.length = 0) : extend l hd t h x = (l, hd, 3) := by unfold extend; rw [if_pos hk, if_pos hs, if_pos hx]
theorem extend4 {l : List ByteArray} {hd : Hd} {t : List Hd} {h : Hd} {x : List ByteArray} (hk : logOk l hd = true ∧ okH h = true ∧ h.n = ((l ++ x).length : Int)) (hs : signed t h = true) (hx : ¬ x.length = 0) (he : eqH h (headOf (l ++ x)) = false) : extend l hd t h x = (l, hd, 4) := by unfold extend; rw [if_pos hk, if_pos hs, if_neg hx, if_neg (by simp [he])]
theorem extend0 {l : List ByteArray} {hd : Hd} {t : List Hd} {h : Hd} {x : List ByteArray} (hk : logOk l hd = true ∧ okH h = true ∧ h.n = ((l ++ x).length : Int)) (hs : signed t h = true) (hx : ¬ x.length = 0) (he : eqH h (headOf (l ++ x)) = true) : extend l hd t h x = (l ++ x, h, 0) := by unfold extend; rw [if_pos hk, if_pos hs, if_neg hx, if_pos he]
theorem size_app {l x : List ByteArray} {N : Nat} (h1 : ∀ s ∈ l, s.size ≤ N) (h2 : ∀ s ∈ x, s.size ≤ N) : ∀ s ∈ l ++ x, s.size ≤ N := by
  intro s hs
  rcases List.mem_append.1 hs with h | h
  · exact h1 s h
  · exact h2 s h

set_option maxRecDepth 1000000 in
set_option maxHeartbeats 8000000 in
theorem extend_spec (w : World) (v vt vx : Value) (l x : List ByteArray) (hd h : Hd) (t : List Hd) (hs : Sl w v (ss l)) (ht : Sh w vt t) (hsx : Sl w vx (ss x)) (hl : l.length ≤ 1000000000) (htl : t.length ≤ 1000000000) (hx : x.length ≤ 1000000000) (hz : ∀ s ∈ l, s.size ≤ 10000000000) (hzx : ∀ s ∈ x, s.size ≤ 10000000000) :
    Calls Tryd.prog 12 #[.agg #[v, .int .i64 hd.n, .string hd.r], vt, .agg #[.int .i64 h.n, .string h.r], vx] w fun e w' => ∃ v', e = .returned (.tuple #[.agg #[v', .int .i64 (extend l hd t h x).2.1.n, .string (extend l hd t h x).2.1.r], .int .i64 (extend l hd t h x).2.2]) ∧ Own w' w.heap.size w'.heap.size 9 v' (ss (extend l hd t h x).1) ∧ Below w.heap.size w w' := by
  obtain ⟨i0, hi, hz0, hz1, hz2⟩ := info_parts info9t
  have HS : Hid (Sl w v (ss l)) := hs
  have HSX : Hid (Sl w vx (ss x)) := hsx
  have HT : Hid (Sh w vt t) := ht
  obtain ⟨ao0, cap0, rfl, hc0⟩ := hs.form
  obtain ⟨ao1, cap1, rfl, hc1⟩ := hsx.form
  obtain ⟨ao2, cap2, rfl, hc2⟩ := ht.form
  simp only [ss_len] at *
  clear hs hsx ht
  have B0 : Hid (Below w.heap.size w w) := Below.refl _ _
  obtain ⟨W1, HW1, b1, y1, hS1, r_a1, r_h1, r_res1⟩ : ∃ X, Hid ((((w.alloc (.cells #[.slice ao0 l.length cap0, .int .i64 hd.n, .string hd.r] 28)).alloc (.cells #[.int .i64 h.n, .string h.r] 26)).alloc (.cells #[.slice none 0 0, .int .i64 0, .string ⟨#[]⟩] 28)) = X) ∧ Below w.heap.size w X ∧ w.heap.size + 3 ≤ X.heap.size ∧ Hid (X.heap.size = w.heap.size + 1 + 1 + 1) ∧ Hid (X.heap[w.heap.size]? = some (.cells #[.slice ao0 l.length cap0, .int .i64 hd.n, .string hd.r] 28 (0, 0))) ∧ Hid (X.heap[w.heap.size + 1]? = some (.cells #[.int .i64 h.n, .string h.r] 26 (0, 0))) ∧ Hid (X.heap[w.heap.size + 1 + 1]? = some (.cells #[.slice none 0 0, .int .i64 0, .string ⟨#[]⟩] 28 (0, 0))) := ⟨_, rfl, ((((Below.refl _ _).alloc (Nat.le_refl _) _).alloc (by simp) _).alloc (by simp; omega) _), by simp, by show _ = _; simp, (by show _ = _; exact alloc_nth3_0 w _ _ _), (by show _ = _; exact alloc_nth3_1 w _ _ _), (by show _ = _; exact alloc_nth3_2 w _ _ _)⟩
  have z1 : w.heap.size ≤ W1.heap.size := b1.size
  have B1 : Hid (Below w.heap.size w W1) := B0.out.trans (b1.mono B0.out.size)
  have c_a1_0 : W1.cell? ⟨w.heap.size, 0, none⟩ = some (.slice ao0 l.length cap0) := row_at r_a1.out 0
  have a_a1_0 : ∀ o, (W1.alloc o).cell? ⟨w.heap.size, 0, none⟩ = some (.slice ao0 l.length cap0) := fun o => keepR c_a1_0 ((Below.refl _ _).alloc (Nat.le_refl _) o)
  have c_a1_1 : W1.cell? ⟨w.heap.size, 1, none⟩ = some (.int .i64 hd.n) := row_at r_a1.out 1
  have a_a1_1 : ∀ o, (W1.alloc o).cell? ⟨w.heap.size, 1, none⟩ = some (.int .i64 hd.n) := fun o => keepR c_a1_1 ((Below.refl _ _).alloc (Nat.le_refl _) o)
  have c_a1_2 : W1.cell? ⟨w.heap.size, 2, none⟩ = some (.string hd.r) := row_at r_a1.out 2
  have a_a1_2 : ∀ o, (W1.alloc o).cell? ⟨w.heap.size, 2, none⟩ = some (.string hd.r) := fun o => keepR c_a1_2 ((Below.refl _ _).alloc (Nat.le_refl _) o)
  have c_h1_0 : W1.cell? ⟨w.heap.size + 1, 0, none⟩ = some (.int .i64 h.n) := row_at r_h1.out 0
  have a_h1_0 : ∀ o, (W1.alloc o).cell? ⟨w.heap.size + 1, 0, none⟩ = some (.int .i64 h.n) := fun o => keepR c_h1_0 ((Below.refl _ _).alloc (Nat.le_refl _) o)
  have c_h1_1 : W1.cell? ⟨w.heap.size + 1, 1, none⟩ = some (.string h.r) := row_at r_h1.out 1
  have a_h1_1 : ∀ o, (W1.alloc o).cell? ⟨w.heap.size + 1, 1, none⟩ = some (.string h.r) := fun o => keepR c_h1_1 ((Below.refl _ _).alloc (Nat.le_refl _) o)
  have c_res1_0 : W1.cell? ⟨w.heap.size + 1 + 1, 0, none⟩ = some (.slice none 0 0) := row_at r_res1.out 0
  have a_res1_0 : ∀ o, (W1.alloc o).cell? ⟨w.heap.size + 1 + 1, 0, none⟩ = some (.slice none 0 0) := fun o => keepR c_res1_0 ((Below.refl _ _).alloc (Nat.le_refl _) o)
  have c_res1_1 : W1.cell? ⟨w.heap.size + 1 + 1, 1, none⟩ = some (.int .i64 0) := row_at r_res1.out 1
  have a_res1_1 : ∀ o, (W1.alloc o).cell? ⟨w.heap.size + 1 + 1, 1, none⟩ = some (.int .i64 0) := fun o => keepR c_res1_1 ((Below.refl _ _).alloc (Nat.le_refl _) o)
  have c_res1_2 : W1.cell? ⟨w.heap.size + 1 + 1, 2, none⟩ = some (.string ⟨#[]⟩) := row_at r_res1.out 2
  have a_res1_2 : ∀ o, (W1.alloc o).cell? ⟨w.heap.size + 1 + 1, 2, none⟩ = some (.string ⟨#[]⟩) := fun o => keepR c_res1_2 ((Below.refl _ _).alloc (Nat.le_refl _) o)
  have hqA : ∀ W v1, Sl W v1 (ss l) → _ := fun W v1 h1 => logok_spec W v1 l hd h1 (by omega) hz
  have hqO : ∀ W v1, Sl W v1 (ss (l ++ x)) → _ := fun W v1 h1 => headOf_spec W v1 (l ++ x) h1 (by rw [List.length_append]; omega) (size_app hz hzx)
  have hqH : ∀ W, _ := fun W => ok_spec W h
  have hqS : ∀ W v1, Sh W v1 t → _ := fun W v1 h1 => signed_spec W v1 t h h1 (by omega)
  have hall : ((l ++ x).length : Int) = ((l.length + x.length : Nat) : Int) := by rw [List.length_append]
  have HALL : Hid (((l ++ x).length : Int) = ((l.length + x.length : Nat) : Int)) := hall
  clear hall
  obtain ⟨A, hA⟩ : ∃ A, logOk l hd = A := ⟨_, rfl⟩
  obtain ⟨C, hC⟩ : ∃ A, okH h = A := ⟨_, rfl⟩
  obtain ⟨D, hD⟩ : ∃ A, signed t h = A := ⟨_, rfl⟩
  obtain ⟨M, hM⟩ : ∃ A, headOf (l ++ x) = A := ⟨_, rfl⟩
  obtain ⟨E, hE⟩ : ∃ A, eqH h M = A := ⟨_, rfl⟩
  have e1 : ∀ W, _ := fun W => neqH W h M
  have e2 : ∀ W op y z xs ys, _ := fun W op y z xs ys => grdH W op y z xs ys
  simp only [hA] at hqA
  simp only [hC] at hqH
  simp only [hD] at hqS
  simp only [hM] at hqO
  simp only [hE] at e1
  have HA : Hid (logOk l hd = A) := hA
  have HC : Hid (okH h = C) := hC
  have HD : Hid (signed t h = D) := hD
  have HE : Hid (eqH h (headOf (l ++ x)) = E) := by show _ = _; rw [hM]; exact hE
  clear hA hC hD hM hE hz hzx
  obtain ⟨R, hR⟩ : ∃ R, extend l hd t h x = R := ⟨_, rfl⟩
  have HR : Hid (extend l hd t h x = R) := hR
  rw [hR]
  clear hR
  go_enter Tryd.func12, Tryd.ntmps12
  go_wp2_with fail
  rw [HW1.out]
  refine (copy_spec W1 _ l hd (HS.out.later B1.out) hl).mono ?_
  rintro e W2 ⟨v_s, rfl, o_s2, b2⟩
  obtain ⟨ao_s, L_s, cap_s, rfl, hL_s, hM_s⟩ := o_s2.form
  have o_s2 : Hid (Own W2 W1.heap.size W2.heap.size 9 (.slice ao_s L_s cap_s) (ss l)) := o_s2
  clear hL_s hM_s
  have z2 : W1.heap.size ≤ W2.heap.size := b2.size
  have B2 : Hid (Below w.heap.size w W2) := B1.out.trans (b2.mono B1.out.size)
  have r_a2 : Hid (W2.heap[w.heap.size]? = some (.cells #[.slice ao0 l.length cap0, .int .i64 hd.n, .string hd.r] 28 (0, 0))) := rowKeep r_a1.out b2
  have r_h2 : Hid (W2.heap[w.heap.size + 1]? = some (.cells #[.int .i64 h.n, .string h.r] 26 (0, 0))) := rowKeep r_h1.out b2
  have r_res2 : Hid (W2.heap[w.heap.size + 1 + 1]? = some (.cells #[.slice none 0 0, .int .i64 0, .string ⟨#[]⟩] 28 (0, 0))) := rowKeep r_res1.out b2
  have c_a2_0 : W2.cell? ⟨w.heap.size, 0, none⟩ = some (.slice ao0 l.length cap0) := row_at r_a2.out 0
  have a_a2_0 : ∀ o, (W2.alloc o).cell? ⟨w.heap.size, 0, none⟩ = some (.slice ao0 l.length cap0) := fun o => keepR c_a2_0 ((Below.refl _ _).alloc (Nat.le_refl _) o)
  have c_a2_1 : W2.cell? ⟨w.heap.size, 1, none⟩ = some (.int .i64 hd.n) := row_at r_a2.out 1
  have a_a2_1 : ∀ o, (W2.alloc o).cell? ⟨w.heap.size, 1, none⟩ = some (.int .i64 hd.n) := fun o => keepR c_a2_1 ((Below.refl _ _).alloc (Nat.le_refl _) o)
  have c_a2_2 : W2.cell? ⟨w.heap.size, 2, none⟩ = some (.string hd.r) := row_at r_a2.out 2
  have a_a2_2 : ∀ o, (W2.alloc o).cell? ⟨w.heap.size, 2, none⟩ = some (.string hd.r) := fun o => keepR c_a2_2 ((Below.refl _ _).alloc (Nat.le_refl _) o)
  have c_h2_0 : W2.cell? ⟨w.heap.size + 1, 0, none⟩ = some (.int .i64 h.n) := row_at r_h2.out 0
  have a_h2_0 : ∀ o, (W2.alloc o).cell? ⟨w.heap.size + 1, 0, none⟩ = some (.int .i64 h.n) := fun o => keepR c_h2_0 ((Below.refl _ _).alloc (Nat.le_refl _) o)
  have c_h2_1 : W2.cell? ⟨w.heap.size + 1, 1, none⟩ = some (.string h.r) := row_at r_h2.out 1
  have a_h2_1 : ∀ o, (W2.alloc o).cell? ⟨w.heap.size + 1, 1, none⟩ = some (.string h.r) := fun o => keepR c_h2_1 ((Below.refl _ _).alloc (Nat.le_refl _) o)
  have c_res2_0 : W2.cell? ⟨w.heap.size + 1 + 1, 0, none⟩ = some (.slice none 0 0) := row_at r_res2.out 0
  have a_res2_0 : ∀ o, (W2.alloc o).cell? ⟨w.heap.size + 1 + 1, 0, none⟩ = some (.slice none 0 0) := fun o => keepR c_res2_0 ((Below.refl _ _).alloc (Nat.le_refl _) o)
  have c_res2_1 : W2.cell? ⟨w.heap.size + 1 + 1, 1, none⟩ = some (.int .i64 0) := row_at r_res2.out 1
  have a_res2_1 : ∀ o, (W2.alloc o).cell? ⟨w.heap.size + 1 + 1, 1, none⟩ = some (.int .i64 0) := fun o => keepR c_res2_1 ((Below.refl _ _).alloc (Nat.le_refl _) o)
  have c_res2_2 : W2.cell? ⟨w.heap.size + 1 + 1, 2, none⟩ = some (.string ⟨#[]⟩) := row_at r_res2.out 2
  have a_res2_2 : ∀ o, (W2.alloc o).cell? ⟨w.heap.size + 1 + 1, 2, none⟩ = some (.string ⟨#[]⟩) := fun o => keepR c_res2_2 ((Below.refl _ _).alloc (Nat.le_refl _) o)
  clear r_a1 c_a1_0 c_a1_1 c_a1_2 a_a1_0 a_a1_1 a_a1_2 r_h1 c_h1_0 c_h1_1 a_h1_0 a_h1_1 r_res1 c_res1_0 c_res1_1 c_res1_2 a_res1_0 a_res1_1 a_res1_2
  obtain ⟨W3, HW3, b3, y3, hS3, r_same3⟩ : ∃ X, Hid ((W2.alloc (.cells #[.slice ao_s L_s cap_s, .int .i64 hd.n, .string hd.r] 28)) = X) ∧ Below W2.heap.size W2 X ∧ W2.heap.size + 1 ≤ X.heap.size ∧ Hid (X.heap.size = W2.heap.size + 1) ∧ Hid (X.heap[W2.heap.size]? = some (.cells #[.slice ao_s L_s cap_s, .int .i64 hd.n, .string hd.r] 28 (0, 0))) := ⟨_, rfl, ((Below.refl _ _).alloc (Nat.le_refl _) _), by simp, by show _ = _; simp, (by show _ = _; exact alloc_nth1_0 W2 _)⟩
  have z3 : W2.heap.size ≤ W3.heap.size := b3.size
  have B3 : Hid (Below w.heap.size w W3) := B2.out.trans (b3.mono B2.out.size)
  have r_a3 : Hid (W3.heap[w.heap.size]? = some (.cells #[.slice ao0 l.length cap0, .int .i64 hd.n, .string hd.r] 28 (0, 0))) := rowKeep r_a2.out b3
  have r_h3 : Hid (W3.heap[w.heap.size + 1]? = some (.cells #[.int .i64 h.n, .string h.r] 26 (0, 0))) := rowKeep r_h2.out b3
  have r_res3 : Hid (W3.heap[w.heap.size + 1 + 1]? = some (.cells #[.slice none 0 0, .int .i64 0, .string ⟨#[]⟩] 28 (0, 0))) := rowKeep r_res2.out b3
  have o_s3 : Hid (Own W3 (W1.heap.size) (W2.heap.size) 9 (.slice ao_s L_s cap_s) (ss l)) := Own.later o_s2.out b3 (by omega)
  have c_a3_0 : W3.cell? ⟨w.heap.size, 0, none⟩ = some (.slice ao0 l.length cap0) := row_at r_a3.out 0
  have a_a3_0 : ∀ o, (W3.alloc o).cell? ⟨w.heap.size, 0, none⟩ = some (.slice ao0 l.length cap0) := fun o => keepR c_a3_0 ((Below.refl _ _).alloc (Nat.le_refl _) o)
  have c_a3_1 : W3.cell? ⟨w.heap.size, 1, none⟩ = some (.int .i64 hd.n) := row_at r_a3.out 1
  have a_a3_1 : ∀ o, (W3.alloc o).cell? ⟨w.heap.size, 1, none⟩ = some (.int .i64 hd.n) := fun o => keepR c_a3_1 ((Below.refl _ _).alloc (Nat.le_refl _) o)
  have c_a3_2 : W3.cell? ⟨w.heap.size, 2, none⟩ = some (.string hd.r) := row_at r_a3.out 2
  have a_a3_2 : ∀ o, (W3.alloc o).cell? ⟨w.heap.size, 2, none⟩ = some (.string hd.r) := fun o => keepR c_a3_2 ((Below.refl _ _).alloc (Nat.le_refl _) o)
  have c_h3_0 : W3.cell? ⟨w.heap.size + 1, 0, none⟩ = some (.int .i64 h.n) := row_at r_h3.out 0
  have a_h3_0 : ∀ o, (W3.alloc o).cell? ⟨w.heap.size + 1, 0, none⟩ = some (.int .i64 h.n) := fun o => keepR c_h3_0 ((Below.refl _ _).alloc (Nat.le_refl _) o)
  have c_h3_1 : W3.cell? ⟨w.heap.size + 1, 1, none⟩ = some (.string h.r) := row_at r_h3.out 1
  have a_h3_1 : ∀ o, (W3.alloc o).cell? ⟨w.heap.size + 1, 1, none⟩ = some (.string h.r) := fun o => keepR c_h3_1 ((Below.refl _ _).alloc (Nat.le_refl _) o)
  have c_res3_0 : W3.cell? ⟨w.heap.size + 1 + 1, 0, none⟩ = some (.slice none 0 0) := row_at r_res3.out 0
  have a_res3_0 : ∀ o, (W3.alloc o).cell? ⟨w.heap.size + 1 + 1, 0, none⟩ = some (.slice none 0 0) := fun o => keepR c_res3_0 ((Below.refl _ _).alloc (Nat.le_refl _) o)
  have c_res3_1 : W3.cell? ⟨w.heap.size + 1 + 1, 1, none⟩ = some (.int .i64 0) := row_at r_res3.out 1
  have a_res3_1 : ∀ o, (W3.alloc o).cell? ⟨w.heap.size + 1 + 1, 1, none⟩ = some (.int .i64 0) := fun o => keepR c_res3_1 ((Below.refl _ _).alloc (Nat.le_refl _) o)
  have c_res3_2 : W3.cell? ⟨w.heap.size + 1 + 1, 2, none⟩ = some (.string ⟨#[]⟩) := row_at r_res3.out 2
  have a_res3_2 : ∀ o, (W3.alloc o).cell? ⟨w.heap.size + 1 + 1, 2, none⟩ = some (.string ⟨#[]⟩) := fun o => keepR c_res3_2 ((Below.refl _ _).alloc (Nat.le_refl _) o)
  have c_same3_0 : W3.cell? ⟨W2.heap.size, 0, none⟩ = some (.slice ao_s L_s cap_s) := row_at r_same3.out 0
  have a_same3_0 : ∀ o, (W3.alloc o).cell? ⟨W2.heap.size, 0, none⟩ = some (.slice ao_s L_s cap_s) := fun o => keepR c_same3_0 ((Below.refl _ _).alloc (Nat.le_refl _) o)
  have c_same3_1 : W3.cell? ⟨W2.heap.size, 1, none⟩ = some (.int .i64 hd.n) := row_at r_same3.out 1
  have a_same3_1 : ∀ o, (W3.alloc o).cell? ⟨W2.heap.size, 1, none⟩ = some (.int .i64 hd.n) := fun o => keepR c_same3_1 ((Below.refl _ _).alloc (Nat.le_refl _) o)
  have c_same3_2 : W3.cell? ⟨W2.heap.size, 2, none⟩ = some (.string hd.r) := row_at r_same3.out 2
  have a_same3_2 : ∀ o, (W3.alloc o).cell? ⟨W2.heap.size, 2, none⟩ = some (.string hd.r) := fun o => keepR c_same3_2 ((Below.refl _ _).alloc (Nat.le_refl _) o)
  clear r_a2 c_a2_0 c_a2_1 c_a2_2 r_h2 c_h2_0 c_h2_1 r_res2 c_res2_0 c_res2_1 c_res2_2 o_s2
  have aa_a3_0 := a_a3_0
  rw [← HW3.out] at aa_a3_0
  have aa_a3_1 := a_a3_1
  rw [← HW3.out] at aa_a3_1
  have aa_a3_2 := a_a3_2
  rw [← HW3.out] at aa_a3_2
  have aa_h3_0 := a_h3_0
  rw [← HW3.out] at aa_h3_0
  have aa_h3_1 := a_h3_1
  rw [← HW3.out] at aa_h3_1
  have aa_res3_0 := a_res3_0
  rw [← HW3.out] at aa_res3_0
  have aa_res3_1 := a_res3_1
  rw [← HW3.out] at aa_res3_1
  have aa_res3_2 := a_res3_2
  rw [← HW3.out] at aa_res3_2
  have aa_same3_0 := a_same3_0
  rw [← HW3.out] at aa_same3_0
  have aa_same3_1 := a_same3_1
  rw [← HW3.out] at aa_same3_1
  have aa_same3_2 := a_same3_2
  rw [← HW3.out] at aa_same3_2
  have oE4 : Hid (Own (W3.alloc (.cells #[] 9)) W3.heap.size (W3.alloc (.cells #[] 9)).heap.size 9 (.slice (some ⟨W2.heap.size + 1, 0, none⟩) 0 0) (ss [])) := by show Own _ _ _ _ _ _; have h := emptyT W3 W3.heap.size (Nat.le_refl _); rw [hS3.out] at h ⊢; exact h
  have c6_4 : (ss []).length + (ss l).length ≤ maxLen := (by rw [ss_len, ss_len]; unfold maxLen; (try simp only [List.length_nil]); omega)
  have c7_4 : ((ss []).length + (ss l).length) * 16 ≤ 140737488355328 := (by rw [ss_len, ss_len]; (try simp only [List.length_nil]); omega)
  have sE4 : Hid (Sl (W3.alloc (.cells #[] 9)) _ (ss l)) := HS.out.later (B3.out.alloc B3.out.size _)
  go_wp2_with (at_builtin; rw [HW3.out]; go_must (refine wpl_app _ rfl (.tmp 14) (.tmp 16) 24 rfl 9 i0 (.string ⟨#[]⟩) 16 Tryd.underlying24 hi hz0 hz1 hz2 rfl (W3.heap.size) _ (ss []) rfl oE4.out _ rfl (ss l) sE4.out (ss_one l) c6_4 c7_4 (by simp) ?_))
  intro v_p W4 o_p4 q4 _
  clear a_a2_0 a_a2_1 a_a2_2 a_h2_0 a_h2_1 a_res2_0 a_res2_1 a_res2_2 aa_a3_0 aa_a3_1 aa_a3_2 aa_h3_0 aa_h3_1 aa_res3_0 aa_res3_1 aa_res3_2 aa_same3_0 aa_same3_1 aa_same3_2
  have b4 : Below W3.heap.size W3 W4 := ((Below.refl _ _).alloc (Nat.le_refl _) _).trans q4
  obtain ⟨ao_p, L_p, cap_p, rfl, _, _⟩ := o_p4.form
  have o_p4 : Hid (Own W4 (W3.heap.size) W4.heap.size 9 (.slice ao_p L_p cap_p) (ss l)) := o_p4
  clear q4 oE4 sE4 c6_4 c7_4
  have z4 : W3.heap.size ≤ W4.heap.size := b4.size
  have B4 : Hid (Below w.heap.size w W4) := B3.out.trans (b4.mono B3.out.size)
  have r_a4 : Hid (W4.heap[w.heap.size]? = some (.cells #[.slice ao0 l.length cap0, .int .i64 hd.n, .string hd.r] 28 (0, 0))) := rowKeep r_a3.out b4
  have r_h4 : Hid (W4.heap[w.heap.size + 1]? = some (.cells #[.int .i64 h.n, .string h.r] 26 (0, 0))) := rowKeep r_h3.out b4
  have r_res4 : Hid (W4.heap[w.heap.size + 1 + 1]? = some (.cells #[.slice none 0 0, .int .i64 0, .string ⟨#[]⟩] 28 (0, 0))) := rowKeep r_res3.out b4
  have r_same4 : Hid (W4.heap[W2.heap.size]? = some (.cells #[.slice ao_s L_s cap_s, .int .i64 hd.n, .string hd.r] 28 (0, 0))) := rowKeep r_same3.out b4
  have o_s4 : Hid (Own W4 (W1.heap.size) (W2.heap.size) 9 (.slice ao_s L_s cap_s) (ss l)) := Own.later o_s3.out b4 (by omega)
  have c_a4_0 : W4.cell? ⟨w.heap.size, 0, none⟩ = some (.slice ao0 l.length cap0) := row_at r_a4.out 0
  have a_a4_0 : ∀ o, (W4.alloc o).cell? ⟨w.heap.size, 0, none⟩ = some (.slice ao0 l.length cap0) := fun o => keepR c_a4_0 ((Below.refl _ _).alloc (Nat.le_refl _) o)
  have c_a4_1 : W4.cell? ⟨w.heap.size, 1, none⟩ = some (.int .i64 hd.n) := row_at r_a4.out 1
  have a_a4_1 : ∀ o, (W4.alloc o).cell? ⟨w.heap.size, 1, none⟩ = some (.int .i64 hd.n) := fun o => keepR c_a4_1 ((Below.refl _ _).alloc (Nat.le_refl _) o)
  have c_a4_2 : W4.cell? ⟨w.heap.size, 2, none⟩ = some (.string hd.r) := row_at r_a4.out 2
  have a_a4_2 : ∀ o, (W4.alloc o).cell? ⟨w.heap.size, 2, none⟩ = some (.string hd.r) := fun o => keepR c_a4_2 ((Below.refl _ _).alloc (Nat.le_refl _) o)
  have c_h4_0 : W4.cell? ⟨w.heap.size + 1, 0, none⟩ = some (.int .i64 h.n) := row_at r_h4.out 0
  have a_h4_0 : ∀ o, (W4.alloc o).cell? ⟨w.heap.size + 1, 0, none⟩ = some (.int .i64 h.n) := fun o => keepR c_h4_0 ((Below.refl _ _).alloc (Nat.le_refl _) o)
  have c_h4_1 : W4.cell? ⟨w.heap.size + 1, 1, none⟩ = some (.string h.r) := row_at r_h4.out 1
  have a_h4_1 : ∀ o, (W4.alloc o).cell? ⟨w.heap.size + 1, 1, none⟩ = some (.string h.r) := fun o => keepR c_h4_1 ((Below.refl _ _).alloc (Nat.le_refl _) o)
  have c_res4_0 : W4.cell? ⟨w.heap.size + 1 + 1, 0, none⟩ = some (.slice none 0 0) := row_at r_res4.out 0
  have a_res4_0 : ∀ o, (W4.alloc o).cell? ⟨w.heap.size + 1 + 1, 0, none⟩ = some (.slice none 0 0) := fun o => keepR c_res4_0 ((Below.refl _ _).alloc (Nat.le_refl _) o)
  have c_res4_1 : W4.cell? ⟨w.heap.size + 1 + 1, 1, none⟩ = some (.int .i64 0) := row_at r_res4.out 1
  have a_res4_1 : ∀ o, (W4.alloc o).cell? ⟨w.heap.size + 1 + 1, 1, none⟩ = some (.int .i64 0) := fun o => keepR c_res4_1 ((Below.refl _ _).alloc (Nat.le_refl _) o)
  have c_res4_2 : W4.cell? ⟨w.heap.size + 1 + 1, 2, none⟩ = some (.string ⟨#[]⟩) := row_at r_res4.out 2
  have a_res4_2 : ∀ o, (W4.alloc o).cell? ⟨w.heap.size + 1 + 1, 2, none⟩ = some (.string ⟨#[]⟩) := fun o => keepR c_res4_2 ((Below.refl _ _).alloc (Nat.le_refl _) o)
  have c_same4_0 : W4.cell? ⟨W2.heap.size, 0, none⟩ = some (.slice ao_s L_s cap_s) := row_at r_same4.out 0
  have a_same4_0 : ∀ o, (W4.alloc o).cell? ⟨W2.heap.size, 0, none⟩ = some (.slice ao_s L_s cap_s) := fun o => keepR c_same4_0 ((Below.refl _ _).alloc (Nat.le_refl _) o)
  have c_same4_1 : W4.cell? ⟨W2.heap.size, 1, none⟩ = some (.int .i64 hd.n) := row_at r_same4.out 1
  have a_same4_1 : ∀ o, (W4.alloc o).cell? ⟨W2.heap.size, 1, none⟩ = some (.int .i64 hd.n) := fun o => keepR c_same4_1 ((Below.refl _ _).alloc (Nat.le_refl _) o)
  have c_same4_2 : W4.cell? ⟨W2.heap.size, 2, none⟩ = some (.string hd.r) := row_at r_same4.out 2
  have a_same4_2 : ∀ o, (W4.alloc o).cell? ⟨W2.heap.size, 2, none⟩ = some (.string hd.r) := fun o => keepR c_same4_2 ((Below.refl _ _).alloc (Nat.le_refl _) o)
  clear r_a3 c_a3_0 c_a3_1 c_a3_2 a_a3_0 a_a3_1 a_a3_2 r_h3 c_h3_0 c_h3_1 a_h3_0 a_h3_1 r_res3 c_res3_0 c_res3_1 c_res3_2 a_res3_0 a_res3_1 a_res3_2 r_same3 c_same3_0 c_same3_1 c_same3_2 a_same3_0 a_same3_1 a_same3_2 o_s3
  have c6_5 : (ss l).length + (ss x).length ≤ maxLen := (by rw [ss_len, ss_len]; unfold maxLen; (try simp only [List.length_nil]); omega)
  have c7_5 : ((ss l).length + (ss x).length) * 16 ≤ 140737488355328 := (by rw [ss_len, ss_len]; (try simp only [List.length_nil]); omega)
  have sE5 : Hid (Sl W4 _ (ss x)) := HSX.out.later B4.out
  go_wp2_with (at_builtin; go_must (refine wpl_app _ rfl (.tmp 17) (.tmp 18) 24 rfl 9 i0 (.string ⟨#[]⟩) 16 Tryd.underlying24 hi hz0 hz1 hz2 rfl (W3.heap.size) _ (ss l) rfl (Own.mono o_p4.out (Nat.le_refl _) (by omega)) _ rfl (ss x) sE5.out (ss_one x) c6_5 c7_5 (by omega) ?_))
  intro v_all W5 o_all5 q5 _
  obtain ⟨ao_all, L_all, cap_all, rfl, _, _⟩ := o_all5.form
  have o_all5 : Hid (Own W5 (W3.heap.size) W5.heap.size 9 (.slice ao_all L_all cap_all) (ss (l ++ x))) := by show Own _ _ _ _ _ _; rw [ss_app]; exact o_all5
  have z5 : W4.heap.size ≤ W5.heap.size := q5.size
  have B5 : Hid (Below w.heap.size w W5) := B4.out.trans (q5.mono (by have := B4.out.size; omega))
  have r_a5 : Hid (W5.heap[w.heap.size]? = some (.cells #[.slice ao0 l.length cap0, .int .i64 hd.n, .string hd.r] 28 (0, 0))) := (q5.block (w.heap.size) (by omega)).trans r_a4.out
  have r_h5 : Hid (W5.heap[w.heap.size + 1]? = some (.cells #[.int .i64 h.n, .string h.r] 26 (0, 0))) := (q5.block (w.heap.size + 1) (by omega)).trans r_h4.out
  have r_res5 : Hid (W5.heap[w.heap.size + 1 + 1]? = some (.cells #[.slice none 0 0, .int .i64 0, .string ⟨#[]⟩] 28 (0, 0))) := (q5.block (w.heap.size + 1 + 1) (by omega)).trans r_res4.out
  have r_same5 : Hid (W5.heap[W2.heap.size]? = some (.cells #[.slice ao_s L_s cap_s, .int .i64 hd.n, .string hd.r] 28 (0, 0))) := (q5.block (W2.heap.size) (by omega)).trans r_same4.out
  have o_s5 : Hid (Own W5 (W1.heap.size) (W2.heap.size) 9 (.slice ao_s L_s cap_s) (ss l)) := Own.later o_s4.out q5 (by omega)
  have c_a5_0 : W5.cell? ⟨w.heap.size, 0, none⟩ = some (.slice ao0 l.length cap0) := row_at r_a5.out 0
  have a_a5_0 : ∀ o, (W5.alloc o).cell? ⟨w.heap.size, 0, none⟩ = some (.slice ao0 l.length cap0) := fun o => keepR c_a5_0 ((Below.refl _ _).alloc (Nat.le_refl _) o)
  have c_a5_1 : W5.cell? ⟨w.heap.size, 1, none⟩ = some (.int .i64 hd.n) := row_at r_a5.out 1
  have a_a5_1 : ∀ o, (W5.alloc o).cell? ⟨w.heap.size, 1, none⟩ = some (.int .i64 hd.n) := fun o => keepR c_a5_1 ((Below.refl _ _).alloc (Nat.le_refl _) o)
  have c_a5_2 : W5.cell? ⟨w.heap.size, 2, none⟩ = some (.string hd.r) := row_at r_a5.out 2
  have a_a5_2 : ∀ o, (W5.alloc o).cell? ⟨w.heap.size, 2, none⟩ = some (.string hd.r) := fun o => keepR c_a5_2 ((Below.refl _ _).alloc (Nat.le_refl _) o)
  have c_h5_0 : W5.cell? ⟨w.heap.size + 1, 0, none⟩ = some (.int .i64 h.n) := row_at r_h5.out 0
  have a_h5_0 : ∀ o, (W5.alloc o).cell? ⟨w.heap.size + 1, 0, none⟩ = some (.int .i64 h.n) := fun o => keepR c_h5_0 ((Below.refl _ _).alloc (Nat.le_refl _) o)
  have c_h5_1 : W5.cell? ⟨w.heap.size + 1, 1, none⟩ = some (.string h.r) := row_at r_h5.out 1
  have a_h5_1 : ∀ o, (W5.alloc o).cell? ⟨w.heap.size + 1, 1, none⟩ = some (.string h.r) := fun o => keepR c_h5_1 ((Below.refl _ _).alloc (Nat.le_refl _) o)
  have c_res5_0 : W5.cell? ⟨w.heap.size + 1 + 1, 0, none⟩ = some (.slice none 0 0) := row_at r_res5.out 0
  have a_res5_0 : ∀ o, (W5.alloc o).cell? ⟨w.heap.size + 1 + 1, 0, none⟩ = some (.slice none 0 0) := fun o => keepR c_res5_0 ((Below.refl _ _).alloc (Nat.le_refl _) o)
  have c_res5_1 : W5.cell? ⟨w.heap.size + 1 + 1, 1, none⟩ = some (.int .i64 0) := row_at r_res5.out 1
  have a_res5_1 : ∀ o, (W5.alloc o).cell? ⟨w.heap.size + 1 + 1, 1, none⟩ = some (.int .i64 0) := fun o => keepR c_res5_1 ((Below.refl _ _).alloc (Nat.le_refl _) o)
  have c_res5_2 : W5.cell? ⟨w.heap.size + 1 + 1, 2, none⟩ = some (.string ⟨#[]⟩) := row_at r_res5.out 2
  have a_res5_2 : ∀ o, (W5.alloc o).cell? ⟨w.heap.size + 1 + 1, 2, none⟩ = some (.string ⟨#[]⟩) := fun o => keepR c_res5_2 ((Below.refl _ _).alloc (Nat.le_refl _) o)
  have c_same5_0 : W5.cell? ⟨W2.heap.size, 0, none⟩ = some (.slice ao_s L_s cap_s) := row_at r_same5.out 0
  have a_same5_0 : ∀ o, (W5.alloc o).cell? ⟨W2.heap.size, 0, none⟩ = some (.slice ao_s L_s cap_s) := fun o => keepR c_same5_0 ((Below.refl _ _).alloc (Nat.le_refl _) o)
  have c_same5_1 : W5.cell? ⟨W2.heap.size, 1, none⟩ = some (.int .i64 hd.n) := row_at r_same5.out 1
  have a_same5_1 : ∀ o, (W5.alloc o).cell? ⟨W2.heap.size, 1, none⟩ = some (.int .i64 hd.n) := fun o => keepR c_same5_1 ((Below.refl _ _).alloc (Nat.le_refl _) o)
  have c_same5_2 : W5.cell? ⟨W2.heap.size, 2, none⟩ = some (.string hd.r) := row_at r_same5.out 2
  have a_same5_2 : ∀ o, (W5.alloc o).cell? ⟨W2.heap.size, 2, none⟩ = some (.string hd.r) := fun o => keepR c_same5_2 ((Below.refl _ _).alloc (Nat.le_refl _) o)
  clear r_a4 c_a4_0 c_a4_1 c_a4_2 a_a4_0 a_a4_1 a_a4_2 r_h4 c_h4_0 c_h4_1 a_h4_0 a_h4_1 r_res4 c_res4_0 c_res4_1 c_res4_2 a_res4_0 a_res4_1 a_res4_2 r_same4 c_same4_0 c_same4_1 c_same4_2 a_same4_0 a_same4_1 a_same4_2 o_s4 o_p4
  clear q5 sE5 c6_5 c7_5
  have hLall : L_all ≤ l.length + x.length ∧ l.length + x.length ≤ L_all := by obtain ⟨a9, L9, c9, he, h1, h2⟩ := Mem.Own.form o_all5.out; injection he with _ he2 _; rw [ss_len, List.length_append] at h1 h2; omega
  go_wp2_with fail
  refine (hqA W5 _ (HS.out.later B5.out)).mono ?_
  rintro e W6 ⟨rfl, b6⟩
  have z6 : W5.heap.size ≤ W6.heap.size := b6.size
  have B6 : Hid (Below w.heap.size w W6) := B5.out.trans (b6.mono B5.out.size)
  have r_a6 : Hid (W6.heap[w.heap.size]? = some (.cells #[.slice ao0 l.length cap0, .int .i64 hd.n, .string hd.r] 28 (0, 0))) := rowKeep r_a5.out b6
  have r_h6 : Hid (W6.heap[w.heap.size + 1]? = some (.cells #[.int .i64 h.n, .string h.r] 26 (0, 0))) := rowKeep r_h5.out b6
  have r_res6 : Hid (W6.heap[w.heap.size + 1 + 1]? = some (.cells #[.slice none 0 0, .int .i64 0, .string ⟨#[]⟩] 28 (0, 0))) := rowKeep r_res5.out b6
  have r_same6 : Hid (W6.heap[W2.heap.size]? = some (.cells #[.slice ao_s L_s cap_s, .int .i64 hd.n, .string hd.r] 28 (0, 0))) := rowKeep r_same5.out b6
  have o_s6 : Hid (Own W6 (W1.heap.size) (W2.heap.size) 9 (.slice ao_s L_s cap_s) (ss l)) := Own.later o_s5.out b6 (by omega)
  have o_all6 : Hid (Own W6 (W3.heap.size) (W5.heap.size) 9 (.slice ao_all L_all cap_all) (ss (l ++ x))) := Own.later o_all5.out b6 (by omega)
  have c_a6_0 : W6.cell? ⟨w.heap.size, 0, none⟩ = some (.slice ao0 l.length cap0) := row_at r_a6.out 0
  have a_a6_0 : ∀ o, (W6.alloc o).cell? ⟨w.heap.size, 0, none⟩ = some (.slice ao0 l.length cap0) := fun o => keepR c_a6_0 ((Below.refl _ _).alloc (Nat.le_refl _) o)
  have c_a6_1 : W6.cell? ⟨w.heap.size, 1, none⟩ = some (.int .i64 hd.n) := row_at r_a6.out 1
  have a_a6_1 : ∀ o, (W6.alloc o).cell? ⟨w.heap.size, 1, none⟩ = some (.int .i64 hd.n) := fun o => keepR c_a6_1 ((Below.refl _ _).alloc (Nat.le_refl _) o)
  have c_a6_2 : W6.cell? ⟨w.heap.size, 2, none⟩ = some (.string hd.r) := row_at r_a6.out 2
  have a_a6_2 : ∀ o, (W6.alloc o).cell? ⟨w.heap.size, 2, none⟩ = some (.string hd.r) := fun o => keepR c_a6_2 ((Below.refl _ _).alloc (Nat.le_refl _) o)
  have c_h6_0 : W6.cell? ⟨w.heap.size + 1, 0, none⟩ = some (.int .i64 h.n) := row_at r_h6.out 0
  have a_h6_0 : ∀ o, (W6.alloc o).cell? ⟨w.heap.size + 1, 0, none⟩ = some (.int .i64 h.n) := fun o => keepR c_h6_0 ((Below.refl _ _).alloc (Nat.le_refl _) o)
  have c_h6_1 : W6.cell? ⟨w.heap.size + 1, 1, none⟩ = some (.string h.r) := row_at r_h6.out 1
  have a_h6_1 : ∀ o, (W6.alloc o).cell? ⟨w.heap.size + 1, 1, none⟩ = some (.string h.r) := fun o => keepR c_h6_1 ((Below.refl _ _).alloc (Nat.le_refl _) o)
  have c_res6_0 : W6.cell? ⟨w.heap.size + 1 + 1, 0, none⟩ = some (.slice none 0 0) := row_at r_res6.out 0
  have a_res6_0 : ∀ o, (W6.alloc o).cell? ⟨w.heap.size + 1 + 1, 0, none⟩ = some (.slice none 0 0) := fun o => keepR c_res6_0 ((Below.refl _ _).alloc (Nat.le_refl _) o)
  have c_res6_1 : W6.cell? ⟨w.heap.size + 1 + 1, 1, none⟩ = some (.int .i64 0) := row_at r_res6.out 1
  have a_res6_1 : ∀ o, (W6.alloc o).cell? ⟨w.heap.size + 1 + 1, 1, none⟩ = some (.int .i64 0) := fun o => keepR c_res6_1 ((Below.refl _ _).alloc (Nat.le_refl _) o)
  have c_res6_2 : W6.cell? ⟨w.heap.size + 1 + 1, 2, none⟩ = some (.string ⟨#[]⟩) := row_at r_res6.out 2
  have a_res6_2 : ∀ o, (W6.alloc o).cell? ⟨w.heap.size + 1 + 1, 2, none⟩ = some (.string ⟨#[]⟩) := fun o => keepR c_res6_2 ((Below.refl _ _).alloc (Nat.le_refl _) o)
  have c_same6_0 : W6.cell? ⟨W2.heap.size, 0, none⟩ = some (.slice ao_s L_s cap_s) := row_at r_same6.out 0
  have a_same6_0 : ∀ o, (W6.alloc o).cell? ⟨W2.heap.size, 0, none⟩ = some (.slice ao_s L_s cap_s) := fun o => keepR c_same6_0 ((Below.refl _ _).alloc (Nat.le_refl _) o)
  have c_same6_1 : W6.cell? ⟨W2.heap.size, 1, none⟩ = some (.int .i64 hd.n) := row_at r_same6.out 1
  have a_same6_1 : ∀ o, (W6.alloc o).cell? ⟨W2.heap.size, 1, none⟩ = some (.int .i64 hd.n) := fun o => keepR c_same6_1 ((Below.refl _ _).alloc (Nat.le_refl _) o)
  have c_same6_2 : W6.cell? ⟨W2.heap.size, 2, none⟩ = some (.string hd.r) := row_at r_same6.out 2
  have a_same6_2 : ∀ o, (W6.alloc o).cell? ⟨W2.heap.size, 2, none⟩ = some (.string hd.r) := fun o => keepR c_same6_2 ((Below.refl _ _).alloc (Nat.le_refl _) o)
  clear r_a5 c_a5_0 c_a5_1 c_a5_2 a_a5_0 a_a5_1 a_a5_2 r_h5 c_h5_0 c_h5_1 a_h5_0 a_h5_1 r_res5 c_res5_0 c_res5_1 c_res5_2 a_res5_0 a_res5_1 a_res5_2 r_same5 c_same5_0 c_same5_1 c_same5_2 a_same5_0 a_same5_1 a_same5_2 o_s5 o_all5
  cases A
  · have hA := HA.out
    have HN : Hid (R = (l, hd, 1)) := by show _ = _; rw [← HR.out]; exact extend1 (fun hk => by rw [hA] at hk; exact absurd hk.1 (by simp)) t
    go_wp2_with (first | (refine wpList_load_row rfl 28 _ rfl (W2.heap.size) rfl 28 (lc (.slice ao_s L_s cap_s) hd) (0, 0) _ r_same6.out Tryd.underlying28 rfl (sizeL _ _) ?_) | (refine wpList_store_row rfl 28 _ _ rfl (w.heap.size + 1 + 1) (lc (.slice ao_s L_s cap_s) hd) rfl rfl 28 _ r_res6.out (sizeL _ _) rfl (oneL _ rfl) ?_))
    refine bodyPost_ret (res_row_tmp rfl _ _ (w.heap.size + 1 + 1) 28 (lc (.slice ao_s L_s cap_s) hd) (0, 0) _ rfl (setRow_heap _ _ _ _ _ (0, 0) r_res6.out) Tryd.underlying28 rfl (sizeL _ _)) rfl ⟨.slice ao_s L_s cap_s, by rw [HN.out]; rfl, ?_, below_setRow B6.out (by omega) _⟩
    rw [HN.out]
    exact (Own.setRow o_s6.out _ (by omega)).mono (by omega) (by rw [size_setRow]; omega)
  · go_wp2_with fail
    refine (hqH W6).mono ?_
    rintro e W7 ⟨rfl, b7⟩
    have z7 : W6.heap.size ≤ W7.heap.size := b7.size
    have B7 : Hid (Below w.heap.size w W7) := B6.out.trans (b7.mono B6.out.size)
    have r_a7 : Hid (W7.heap[w.heap.size]? = some (.cells #[.slice ao0 l.length cap0, .int .i64 hd.n, .string hd.r] 28 (0, 0))) := rowKeep r_a6.out b7
    have r_h7 : Hid (W7.heap[w.heap.size + 1]? = some (.cells #[.int .i64 h.n, .string h.r] 26 (0, 0))) := rowKeep r_h6.out b7
    have r_res7 : Hid (W7.heap[w.heap.size + 1 + 1]? = some (.cells #[.slice none 0 0, .int .i64 0, .string ⟨#[]⟩] 28 (0, 0))) := rowKeep r_res6.out b7
    have r_same7 : Hid (W7.heap[W2.heap.size]? = some (.cells #[.slice ao_s L_s cap_s, .int .i64 hd.n, .string hd.r] 28 (0, 0))) := rowKeep r_same6.out b7
    have o_s7 : Hid (Own W7 (W1.heap.size) (W2.heap.size) 9 (.slice ao_s L_s cap_s) (ss l)) := Own.later o_s6.out b7 (by omega)
    have o_all7 : Hid (Own W7 (W3.heap.size) (W5.heap.size) 9 (.slice ao_all L_all cap_all) (ss (l ++ x))) := Own.later o_all6.out b7 (by omega)
    have c_a7_0 : W7.cell? ⟨w.heap.size, 0, none⟩ = some (.slice ao0 l.length cap0) := row_at r_a7.out 0
    have a_a7_0 : ∀ o, (W7.alloc o).cell? ⟨w.heap.size, 0, none⟩ = some (.slice ao0 l.length cap0) := fun o => keepR c_a7_0 ((Below.refl _ _).alloc (Nat.le_refl _) o)
    have c_a7_1 : W7.cell? ⟨w.heap.size, 1, none⟩ = some (.int .i64 hd.n) := row_at r_a7.out 1
    have a_a7_1 : ∀ o, (W7.alloc o).cell? ⟨w.heap.size, 1, none⟩ = some (.int .i64 hd.n) := fun o => keepR c_a7_1 ((Below.refl _ _).alloc (Nat.le_refl _) o)
    have c_a7_2 : W7.cell? ⟨w.heap.size, 2, none⟩ = some (.string hd.r) := row_at r_a7.out 2
    have a_a7_2 : ∀ o, (W7.alloc o).cell? ⟨w.heap.size, 2, none⟩ = some (.string hd.r) := fun o => keepR c_a7_2 ((Below.refl _ _).alloc (Nat.le_refl _) o)
    have c_h7_0 : W7.cell? ⟨w.heap.size + 1, 0, none⟩ = some (.int .i64 h.n) := row_at r_h7.out 0
    have a_h7_0 : ∀ o, (W7.alloc o).cell? ⟨w.heap.size + 1, 0, none⟩ = some (.int .i64 h.n) := fun o => keepR c_h7_0 ((Below.refl _ _).alloc (Nat.le_refl _) o)
    have c_h7_1 : W7.cell? ⟨w.heap.size + 1, 1, none⟩ = some (.string h.r) := row_at r_h7.out 1
    have a_h7_1 : ∀ o, (W7.alloc o).cell? ⟨w.heap.size + 1, 1, none⟩ = some (.string h.r) := fun o => keepR c_h7_1 ((Below.refl _ _).alloc (Nat.le_refl _) o)
    have c_res7_0 : W7.cell? ⟨w.heap.size + 1 + 1, 0, none⟩ = some (.slice none 0 0) := row_at r_res7.out 0
    have a_res7_0 : ∀ o, (W7.alloc o).cell? ⟨w.heap.size + 1 + 1, 0, none⟩ = some (.slice none 0 0) := fun o => keepR c_res7_0 ((Below.refl _ _).alloc (Nat.le_refl _) o)
    have c_res7_1 : W7.cell? ⟨w.heap.size + 1 + 1, 1, none⟩ = some (.int .i64 0) := row_at r_res7.out 1
    have a_res7_1 : ∀ o, (W7.alloc o).cell? ⟨w.heap.size + 1 + 1, 1, none⟩ = some (.int .i64 0) := fun o => keepR c_res7_1 ((Below.refl _ _).alloc (Nat.le_refl _) o)
    have c_res7_2 : W7.cell? ⟨w.heap.size + 1 + 1, 2, none⟩ = some (.string ⟨#[]⟩) := row_at r_res7.out 2
    have a_res7_2 : ∀ o, (W7.alloc o).cell? ⟨w.heap.size + 1 + 1, 2, none⟩ = some (.string ⟨#[]⟩) := fun o => keepR c_res7_2 ((Below.refl _ _).alloc (Nat.le_refl _) o)
    have c_same7_0 : W7.cell? ⟨W2.heap.size, 0, none⟩ = some (.slice ao_s L_s cap_s) := row_at r_same7.out 0
    have a_same7_0 : ∀ o, (W7.alloc o).cell? ⟨W2.heap.size, 0, none⟩ = some (.slice ao_s L_s cap_s) := fun o => keepR c_same7_0 ((Below.refl _ _).alloc (Nat.le_refl _) o)
    have c_same7_1 : W7.cell? ⟨W2.heap.size, 1, none⟩ = some (.int .i64 hd.n) := row_at r_same7.out 1
    have a_same7_1 : ∀ o, (W7.alloc o).cell? ⟨W2.heap.size, 1, none⟩ = some (.int .i64 hd.n) := fun o => keepR c_same7_1 ((Below.refl _ _).alloc (Nat.le_refl _) o)
    have c_same7_2 : W7.cell? ⟨W2.heap.size, 2, none⟩ = some (.string hd.r) := row_at r_same7.out 2
    have a_same7_2 : ∀ o, (W7.alloc o).cell? ⟨W2.heap.size, 2, none⟩ = some (.string hd.r) := fun o => keepR c_same7_2 ((Below.refl _ _).alloc (Nat.le_refl _) o)
    clear r_a6 c_a6_0 c_a6_1 c_a6_2 a_a6_0 a_a6_1 a_a6_2 r_h6 c_h6_0 c_h6_1 a_h6_0 a_h6_1 r_res6 c_res6_0 c_res6_1 c_res6_2 a_res6_0 a_res6_1 a_res6_2 r_same6 c_same6_0 c_same6_1 c_same6_2 a_same6_0 a_same6_1 a_same6_2 o_s6 o_all6
    cases C
    · have hC := HC.out
      have HN : Hid (R = (l, hd, 1)) := by show _ = _; rw [← HR.out]; exact extend1 (fun hk => by rw [hC] at hk; exact absurd hk.2.1 (by simp)) t
      go_wp2_with (first | (refine wpList_load_row rfl 28 _ rfl (W2.heap.size) rfl 28 (lc (.slice ao_s L_s cap_s) hd) (0, 0) _ r_same7.out Tryd.underlying28 rfl (sizeL _ _) ?_) | (refine wpList_store_row rfl 28 _ _ rfl (w.heap.size + 1 + 1) (lc (.slice ao_s L_s cap_s) hd) rfl rfl 28 _ r_res7.out (sizeL _ _) rfl (oneL _ rfl) ?_))
      refine bodyPost_ret (res_row_tmp rfl _ _ (w.heap.size + 1 + 1) 28 (lc (.slice ao_s L_s cap_s) hd) (0, 0) _ rfl (setRow_heap _ _ _ _ _ (0, 0) r_res7.out) Tryd.underlying28 rfl (sizeL _ _)) rfl ⟨.slice ao_s L_s cap_s, by rw [HN.out]; rfl, ?_, below_setRow B7.out (by omega) _⟩
      rw [HN.out]
      exact (Own.setRow o_s7.out _ (by omega)).mono (by omega) (by rw [size_setRow]; omega)
    · by_cases hn : h.n = (L_all : Int)
      · have hk : logOk l hd = true ∧ okH h = true ∧ h.n = ((l ++ x).length : Int) := ⟨HA.out, HC.out, by rw [HALL.out, hn]; omega⟩
        have HK : Hid (logOk l hd = true ∧ okH h = true ∧ h.n = ((l ++ x).length : Int)) := hk
        have nn : (h.n != (L_all : Int)) = false := by simp [hn]
        have ne : (h.n == (L_all : Int)) = true := by simp [hn]
        clear hk hn
        go_wp2_with fail
        refine (hqS W7 _ (HT.out.later B7.out)).mono ?_
        rintro e W8 ⟨rfl, b8⟩
        have z8 : W7.heap.size ≤ W8.heap.size := b8.size
        have B8 : Hid (Below w.heap.size w W8) := B7.out.trans (b8.mono B7.out.size)
        have r_a8 : Hid (W8.heap[w.heap.size]? = some (.cells #[.slice ao0 l.length cap0, .int .i64 hd.n, .string hd.r] 28 (0, 0))) := rowKeep r_a7.out b8
        have r_h8 : Hid (W8.heap[w.heap.size + 1]? = some (.cells #[.int .i64 h.n, .string h.r] 26 (0, 0))) := rowKeep r_h7.out b8
        have r_res8 : Hid (W8.heap[w.heap.size + 1 + 1]? = some (.cells #[.slice none 0 0, .int .i64 0, .string ⟨#[]⟩] 28 (0, 0))) := rowKeep r_res7.out b8
        have r_same8 : Hid (W8.heap[W2.heap.size]? = some (.cells #[.slice ao_s L_s cap_s, .int .i64 hd.n, .string hd.r] 28 (0, 0))) := rowKeep r_same7.out b8
        have o_s8 : Hid (Own W8 (W1.heap.size) (W2.heap.size) 9 (.slice ao_s L_s cap_s) (ss l)) := Own.later o_s7.out b8 (by omega)
        have o_all8 : Hid (Own W8 (W3.heap.size) (W5.heap.size) 9 (.slice ao_all L_all cap_all) (ss (l ++ x))) := Own.later o_all7.out b8 (by omega)
        have c_a8_0 : W8.cell? ⟨w.heap.size, 0, none⟩ = some (.slice ao0 l.length cap0) := row_at r_a8.out 0
        have a_a8_0 : ∀ o, (W8.alloc o).cell? ⟨w.heap.size, 0, none⟩ = some (.slice ao0 l.length cap0) := fun o => keepR c_a8_0 ((Below.refl _ _).alloc (Nat.le_refl _) o)
        have c_a8_1 : W8.cell? ⟨w.heap.size, 1, none⟩ = some (.int .i64 hd.n) := row_at r_a8.out 1
        have a_a8_1 : ∀ o, (W8.alloc o).cell? ⟨w.heap.size, 1, none⟩ = some (.int .i64 hd.n) := fun o => keepR c_a8_1 ((Below.refl _ _).alloc (Nat.le_refl _) o)
        have c_a8_2 : W8.cell? ⟨w.heap.size, 2, none⟩ = some (.string hd.r) := row_at r_a8.out 2
        have a_a8_2 : ∀ o, (W8.alloc o).cell? ⟨w.heap.size, 2, none⟩ = some (.string hd.r) := fun o => keepR c_a8_2 ((Below.refl _ _).alloc (Nat.le_refl _) o)
        have c_h8_0 : W8.cell? ⟨w.heap.size + 1, 0, none⟩ = some (.int .i64 h.n) := row_at r_h8.out 0
        have a_h8_0 : ∀ o, (W8.alloc o).cell? ⟨w.heap.size + 1, 0, none⟩ = some (.int .i64 h.n) := fun o => keepR c_h8_0 ((Below.refl _ _).alloc (Nat.le_refl _) o)
        have c_h8_1 : W8.cell? ⟨w.heap.size + 1, 1, none⟩ = some (.string h.r) := row_at r_h8.out 1
        have a_h8_1 : ∀ o, (W8.alloc o).cell? ⟨w.heap.size + 1, 1, none⟩ = some (.string h.r) := fun o => keepR c_h8_1 ((Below.refl _ _).alloc (Nat.le_refl _) o)
        have c_res8_0 : W8.cell? ⟨w.heap.size + 1 + 1, 0, none⟩ = some (.slice none 0 0) := row_at r_res8.out 0
        have a_res8_0 : ∀ o, (W8.alloc o).cell? ⟨w.heap.size + 1 + 1, 0, none⟩ = some (.slice none 0 0) := fun o => keepR c_res8_0 ((Below.refl _ _).alloc (Nat.le_refl _) o)
        have c_res8_1 : W8.cell? ⟨w.heap.size + 1 + 1, 1, none⟩ = some (.int .i64 0) := row_at r_res8.out 1
        have a_res8_1 : ∀ o, (W8.alloc o).cell? ⟨w.heap.size + 1 + 1, 1, none⟩ = some (.int .i64 0) := fun o => keepR c_res8_1 ((Below.refl _ _).alloc (Nat.le_refl _) o)
        have c_res8_2 : W8.cell? ⟨w.heap.size + 1 + 1, 2, none⟩ = some (.string ⟨#[]⟩) := row_at r_res8.out 2
        have a_res8_2 : ∀ o, (W8.alloc o).cell? ⟨w.heap.size + 1 + 1, 2, none⟩ = some (.string ⟨#[]⟩) := fun o => keepR c_res8_2 ((Below.refl _ _).alloc (Nat.le_refl _) o)
        have c_same8_0 : W8.cell? ⟨W2.heap.size, 0, none⟩ = some (.slice ao_s L_s cap_s) := row_at r_same8.out 0
        have a_same8_0 : ∀ o, (W8.alloc o).cell? ⟨W2.heap.size, 0, none⟩ = some (.slice ao_s L_s cap_s) := fun o => keepR c_same8_0 ((Below.refl _ _).alloc (Nat.le_refl _) o)
        have c_same8_1 : W8.cell? ⟨W2.heap.size, 1, none⟩ = some (.int .i64 hd.n) := row_at r_same8.out 1
        have a_same8_1 : ∀ o, (W8.alloc o).cell? ⟨W2.heap.size, 1, none⟩ = some (.int .i64 hd.n) := fun o => keepR c_same8_1 ((Below.refl _ _).alloc (Nat.le_refl _) o)
        have c_same8_2 : W8.cell? ⟨W2.heap.size, 2, none⟩ = some (.string hd.r) := row_at r_same8.out 2
        have a_same8_2 : ∀ o, (W8.alloc o).cell? ⟨W2.heap.size, 2, none⟩ = some (.string hd.r) := fun o => keepR c_same8_2 ((Below.refl _ _).alloc (Nat.le_refl _) o)
        clear r_a7 c_a7_0 c_a7_1 c_a7_2 a_a7_0 a_a7_1 a_a7_2 r_h7 c_h7_0 c_h7_1 a_h7_0 a_h7_1 r_res7 c_res7_0 c_res7_1 c_res7_2 a_res7_0 a_res7_1 a_res7_2 r_same7 c_same7_0 c_same7_1 c_same7_2 a_same7_0 a_same7_1 a_same7_2 o_s7 o_all7
        cases D
        · have HN : Hid (R = (l, hd, 2)) := by show _ = _; rw [← HR.out]; exact extend2 HK.out HD.out
          go_wp2_with (first | (refine wpList_load_row rfl 28 _ rfl (W2.heap.size) rfl 28 (lc (.slice ao_s L_s cap_s) hd) (0, 0) _ r_same8.out Tryd.underlying28 rfl (sizeL _ _) ?_) | (refine wpList_store_row rfl 28 _ _ rfl (w.heap.size + 1 + 1) (lc (.slice ao_s L_s cap_s) hd) rfl rfl 28 _ r_res8.out (sizeL _ _) rfl (oneL _ rfl) ?_))
          refine bodyPost_ret (res_row_tmp rfl _ _ (w.heap.size + 1 + 1) 28 (lc (.slice ao_s L_s cap_s) hd) (0, 0) _ rfl (setRow_heap _ _ _ _ _ (0, 0) r_res8.out) Tryd.underlying28 rfl (sizeL _ _)) rfl ⟨.slice ao_s L_s cap_s, by rw [HN.out]; rfl, ?_, below_setRow B8.out (by omega) _⟩
          rw [HN.out]
          exact (Own.setRow o_s8.out _ (by omega)).mono (by omega) (by rw [size_setRow]; omega)
        · by_cases hx0 : x.length = 0
          · have gx : (x.length : Int) = 0 := by omega
            have HX0 : Hid (x.length = 0) := hx0
            clear hx0
            have HN : Hid (R = (l, hd, 3)) := by show _ = _; rw [← HR.out]; exact extend3 HK.out HD.out HX0.out
            go_wp2_with (first | (refine wpList_load_row rfl 28 _ rfl (W2.heap.size) rfl 28 (lc (.slice ao_s L_s cap_s) hd) (0, 0) _ r_same8.out Tryd.underlying28 rfl (sizeL _ _) ?_) | (refine wpList_store_row rfl 28 _ _ rfl (w.heap.size + 1 + 1) (lc (.slice ao_s L_s cap_s) hd) rfl rfl 28 _ r_res8.out (sizeL _ _) rfl (oneL _ rfl) ?_))
            refine bodyPost_ret (res_row_tmp rfl _ _ (w.heap.size + 1 + 1) 28 (lc (.slice ao_s L_s cap_s) hd) (0, 0) _ rfl (setRow_heap _ _ _ _ _ (0, 0) r_res8.out) Tryd.underlying28 rfl (sizeL _ _)) rfl ⟨.slice ao_s L_s cap_s, by rw [HN.out]; rfl, ?_, below_setRow B8.out (by omega) _⟩
            rw [HN.out]
            exact (Own.setRow o_s8.out _ (by omega)).mono (by omega) (by rw [size_setRow]; omega)
          · have gx : ¬ (x.length : Int) = 0 := by omega
            go_wp2_with fail
            refine wp_region_held_drew (S := fun w' => w'.cell? ⟨w.heap.size + 1, 0, none⟩ = some (.int .i64 h.n) ∧ w'.cell? ⟨w.heap.size + 1, 1, none⟩ = some (.string h.r)) (by kernel_rfl) ⟨c_h8_0, c_h8_1⟩ (fun hHeld => ?_)
            (refine wpAnyH_take (i := 0) (v := ?v0x1) rfl (by kernel_rfl) (by kernel_rfl) (by kernel_rfl) (fun _ _ _ h => h) (Or.inl ⟨by rfl, ?hy0x1⟩) (by assumption) ?rest0x1; case hy0x1 => (intro w hSw; (try dsimp only at hSw); go_split_ands; go_simp; (try with_reducible rfl)))
            try simp only [Act.put, List.setIfInBounds_toArray, List.set_cons_zero, List.set_cons_succ, List.getElem_toArray, List.getElem_cons_zero, List.getElem_cons_succ]
            (refine wpAnyH_take (i := 1) (v := ?v1x2) rfl (by kernel_rfl) (by kernel_rfl) (by kernel_rfl) (fun _ _ _ h => h) (Or.inl ⟨by rfl, ?hy1x2⟩) (by assumption) ?rest1x2; case hy1x2 => (intro w hSw; (try dsimp only at hSw); go_split_ands; go_simp; (try with_reducible rfl)))
            try simp only [Act.put, List.setIfInBounds_toArray, List.set_cons_zero, List.set_cons_succ, List.getElem_toArray, List.getElem_cons_zero, List.getElem_cons_succ]
            refine wpAnyH_ready (rs := [2]) (by kernel_rfl) (by simp) ?_
            refine AllReadyH.cons rfl (fun K hK => ?_) AllReadyH.nil
            go_simp
            refine (hqO W8.drew _ (Own.sl (w := W8.drew) o_all8.out)).mono ?_
            rintro e W9 ⟨rfl, b9⟩
            have b9 : Below W8.heap.size W8 W9 := (Below.drew (Below.refl _ _)).trans b9
            refine hK.out _ _ ⟨keepR (W := W8) hHeld.1 b9, keepR (W := W8) hHeld.2 b9⟩ (fun hHeld => ?_)
            clear hK K
            try simp only [Act.put, List.setIfInBounds_toArray, List.set_cons_zero, List.set_cons_succ, List.getElem_toArray, List.getElem_cons_zero, List.getElem_cons_succ]
            have z9 : W8.heap.size ≤ W9.heap.size := b9.size
            have B9 : Hid (Below w.heap.size w W9) := B8.out.trans (b9.mono B8.out.size)
            have r_a9 : Hid (W9.heap[w.heap.size]? = some (.cells #[.slice ao0 l.length cap0, .int .i64 hd.n, .string hd.r] 28 (0, 0))) := rowKeep r_a8.out b9
            have r_h9 : Hid (W9.heap[w.heap.size + 1]? = some (.cells #[.int .i64 h.n, .string h.r] 26 (0, 0))) := rowKeep r_h8.out b9
            have r_res9 : Hid (W9.heap[w.heap.size + 1 + 1]? = some (.cells #[.slice none 0 0, .int .i64 0, .string ⟨#[]⟩] 28 (0, 0))) := rowKeep r_res8.out b9
            have r_same9 : Hid (W9.heap[W2.heap.size]? = some (.cells #[.slice ao_s L_s cap_s, .int .i64 hd.n, .string hd.r] 28 (0, 0))) := rowKeep r_same8.out b9
            have o_s9 : Hid (Own W9 (W1.heap.size) (W2.heap.size) 9 (.slice ao_s L_s cap_s) (ss l)) := Own.later o_s8.out b9 (by omega)
            have o_all9 : Hid (Own W9 (W3.heap.size) (W5.heap.size) 9 (.slice ao_all L_all cap_all) (ss (l ++ x))) := Own.later o_all8.out b9 (by omega)
            have c_a9_0 : W9.cell? ⟨w.heap.size, 0, none⟩ = some (.slice ao0 l.length cap0) := row_at r_a9.out 0
            have a_a9_0 : ∀ o, (W9.alloc o).cell? ⟨w.heap.size, 0, none⟩ = some (.slice ao0 l.length cap0) := fun o => keepR c_a9_0 ((Below.refl _ _).alloc (Nat.le_refl _) o)
            have c_a9_1 : W9.cell? ⟨w.heap.size, 1, none⟩ = some (.int .i64 hd.n) := row_at r_a9.out 1
            have a_a9_1 : ∀ o, (W9.alloc o).cell? ⟨w.heap.size, 1, none⟩ = some (.int .i64 hd.n) := fun o => keepR c_a9_1 ((Below.refl _ _).alloc (Nat.le_refl _) o)
            have c_a9_2 : W9.cell? ⟨w.heap.size, 2, none⟩ = some (.string hd.r) := row_at r_a9.out 2
            have a_a9_2 : ∀ o, (W9.alloc o).cell? ⟨w.heap.size, 2, none⟩ = some (.string hd.r) := fun o => keepR c_a9_2 ((Below.refl _ _).alloc (Nat.le_refl _) o)
            have c_h9_0 : W9.cell? ⟨w.heap.size + 1, 0, none⟩ = some (.int .i64 h.n) := row_at r_h9.out 0
            have a_h9_0 : ∀ o, (W9.alloc o).cell? ⟨w.heap.size + 1, 0, none⟩ = some (.int .i64 h.n) := fun o => keepR c_h9_0 ((Below.refl _ _).alloc (Nat.le_refl _) o)
            have c_h9_1 : W9.cell? ⟨w.heap.size + 1, 1, none⟩ = some (.string h.r) := row_at r_h9.out 1
            have a_h9_1 : ∀ o, (W9.alloc o).cell? ⟨w.heap.size + 1, 1, none⟩ = some (.string h.r) := fun o => keepR c_h9_1 ((Below.refl _ _).alloc (Nat.le_refl _) o)
            have c_res9_0 : W9.cell? ⟨w.heap.size + 1 + 1, 0, none⟩ = some (.slice none 0 0) := row_at r_res9.out 0
            have a_res9_0 : ∀ o, (W9.alloc o).cell? ⟨w.heap.size + 1 + 1, 0, none⟩ = some (.slice none 0 0) := fun o => keepR c_res9_0 ((Below.refl _ _).alloc (Nat.le_refl _) o)
            have c_res9_1 : W9.cell? ⟨w.heap.size + 1 + 1, 1, none⟩ = some (.int .i64 0) := row_at r_res9.out 1
            have a_res9_1 : ∀ o, (W9.alloc o).cell? ⟨w.heap.size + 1 + 1, 1, none⟩ = some (.int .i64 0) := fun o => keepR c_res9_1 ((Below.refl _ _).alloc (Nat.le_refl _) o)
            have c_res9_2 : W9.cell? ⟨w.heap.size + 1 + 1, 2, none⟩ = some (.string ⟨#[]⟩) := row_at r_res9.out 2
            have a_res9_2 : ∀ o, (W9.alloc o).cell? ⟨w.heap.size + 1 + 1, 2, none⟩ = some (.string ⟨#[]⟩) := fun o => keepR c_res9_2 ((Below.refl _ _).alloc (Nat.le_refl _) o)
            have c_same9_0 : W9.cell? ⟨W2.heap.size, 0, none⟩ = some (.slice ao_s L_s cap_s) := row_at r_same9.out 0
            have a_same9_0 : ∀ o, (W9.alloc o).cell? ⟨W2.heap.size, 0, none⟩ = some (.slice ao_s L_s cap_s) := fun o => keepR c_same9_0 ((Below.refl _ _).alloc (Nat.le_refl _) o)
            have c_same9_1 : W9.cell? ⟨W2.heap.size, 1, none⟩ = some (.int .i64 hd.n) := row_at r_same9.out 1
            have a_same9_1 : ∀ o, (W9.alloc o).cell? ⟨W2.heap.size, 1, none⟩ = some (.int .i64 hd.n) := fun o => keepR c_same9_1 ((Below.refl _ _).alloc (Nat.le_refl _) o)
            have c_same9_2 : W9.cell? ⟨W2.heap.size, 2, none⟩ = some (.string hd.r) := row_at r_same9.out 2
            have a_same9_2 : ∀ o, (W9.alloc o).cell? ⟨W2.heap.size, 2, none⟩ = some (.string hd.r) := fun o => keepR c_same9_2 ((Below.refl _ _).alloc (Nat.le_refl _) o)
            clear r_a8 c_a8_0 c_a8_1 c_a8_2 a_a8_0 a_a8_1 a_a8_2 r_h8 c_h8_0 c_h8_1 a_h8_0 a_h8_1 r_res8 c_res8_0 c_res8_1 c_res8_2 a_res8_0 a_res8_1 a_res8_2 r_same8 c_same8_0 c_same8_1 c_same8_2 a_same8_0 a_same8_1 a_same8_2 o_s8 o_all8
            (refine wpAnyH_take (i := 3) (v := ?v3x3) rfl (by kernel_rfl) (by kernel_rfl) (by kernel_rfl) (fun _ _ _ h => h) (Or.inl ⟨by rfl, ?hy3x3⟩) (by assumption) ?rest3x3; case hy3x3 => (intro w hSw; (try dsimp only at hSw); go_split_ands; go_simp; (try with_reducible rfl)))
            try simp only [Act.put, List.setIfInBounds_toArray, List.set_cons_zero, List.set_cons_succ, List.getElem_toArray, List.getElem_cons_zero, List.getElem_cons_succ]
            (refine wpAnyH_take (i := 4) (v := ?v4x4) rfl (by kernel_rfl) (by kernel_rfl) (by kernel_rfl) (fun _ _ _ h => h) (Or.inl ⟨by rfl, ?hy4x4⟩) (by assumption) ?rest4x4; case hy4x4 => (intro w hSw; (try dsimp only at hSw); go_split_ands; go_simp; (try with_reducible rfl)))
            try simp only [Act.put, List.setIfInBounds_toArray, List.set_cons_zero, List.set_cons_succ, List.getElem_toArray, List.getElem_cons_zero, List.getElem_cons_succ]
            refine wpAnyH_done (by kernel_rfl) ?_ _
            clear hHeld
            cases E
            · have HN : Hid (R = (l, hd, 4)) := by show _ = _; rw [← HR.out]; exact extend4 HK.out HD.out hx0 HE.out
              go_wp2_with (first | (refine wpList_load_row rfl 28 _ rfl (W2.heap.size) rfl 28 (lc (.slice ao_s L_s cap_s) hd) (0, 0) _ r_same9.out Tryd.underlying28 rfl (sizeL _ _) ?_) | (refine wpList_store_row rfl 28 _ _ rfl (w.heap.size + 1 + 1) (lc (.slice ao_s L_s cap_s) hd) rfl rfl 28 _ r_res9.out (sizeL _ _) rfl (oneL _ rfl) ?_))
              refine bodyPost_ret (res_row_tmp rfl _ _ (w.heap.size + 1 + 1) 28 (lc (.slice ao_s L_s cap_s) hd) (0, 0) _ rfl (setRow_heap _ _ _ _ _ (0, 0) r_res9.out) Tryd.underlying28 rfl (sizeL _ _)) rfl ⟨.slice ao_s L_s cap_s, by rw [HN.out]; rfl, ?_, below_setRow B9.out (by omega) _⟩
              rw [HN.out]
              exact (Own.setRow o_s9.out _ (by omega)).mono (by omega) (by rw [size_setRow]; omega)
            · have HN : Hid (R = (l ++ x, h, 0)) := by show _ = _; rw [← HR.out]; exact extend0 HK.out HD.out hx0 HE.out
              go_wp2_with (refine wpList_store_row rfl 28 _ _ rfl (w.heap.size + 1 + 1) (lc (.slice ao_all L_all cap_all) h) rfl rfl 28 _ r_res9.out (sizeL _ _) rfl (oneL _ rfl) ?_)
              refine bodyPost_ret (res_row_tmp rfl _ _ (w.heap.size + 1 + 1) 28 (lc (.slice ao_all L_all cap_all) h) (0, 0) _ rfl (setRow_heap _ _ _ _ _ (0, 0) r_res9.out) Tryd.underlying28 rfl (sizeL _ _)) rfl ⟨.slice ao_all L_all cap_all, by rw [HN.out]; rfl, ?_, below_setRow B9.out (by omega) _⟩
              rw [HN.out]
              exact (Own.setRow o_all9.out _ (by omega)).mono (by omega) (by rw [size_setRow]; omega)
      · have nn : (h.n != (L_all : Int)) = true := by simp [hn]
        have ne : (h.n == (L_all : Int)) = false := by simp [hn]
        have HN : Hid (R = (l, hd, 1)) := by show _ = _; rw [← HR.out]; exact extend1 (fun hk => hn (by rw [hk.2.2, HALL.out]; omega)) t
        go_wp2_with (first | (refine wpList_load_row rfl 28 _ rfl (W2.heap.size) rfl 28 (lc (.slice ao_s L_s cap_s) hd) (0, 0) _ r_same7.out Tryd.underlying28 rfl (sizeL _ _) ?_) | (refine wpList_store_row rfl 28 _ _ rfl (w.heap.size + 1 + 1) (lc (.slice ao_s L_s cap_s) hd) rfl rfl 28 _ r_res7.out (sizeL _ _) rfl (oneL _ rfl) ?_))
        refine bodyPost_ret (res_row_tmp rfl _ _ (w.heap.size + 1 + 1) 28 (lc (.slice ao_s L_s cap_s) hd) (0, 0) _ rfl (setRow_heap _ _ _ _ _ (0, 0) r_res7.out) Tryd.underlying28 rfl (sizeL _ _)) rfl ⟨.slice ao_s L_s cap_s, by rw [HN.out]; rfl, ?_, below_setRow B7.out (by omega) _⟩
        rw [HN.out]
        exact (Own.setRow o_s7.out _ (by omega)).mono (by omega) (by rw [size_setRow]; omega)

/-- what ProveIn and ProveGrown answer -/
def proveIn (l : List ByteArray) (h : Hd) (i : Int) : List ByteArray × Bool := if logOk l h = true ∧ 0 ≤ i ∧ i ≤ (l.length : Int) - 1 then (path l i.toNat, true) else ([], false)
def proveGrown (l : List ByteArray) (h : Hd) (n : Int) : List ByteArray × Bool := if logOk l h = true ∧ 1 ≤ n ∧ n ≤ (l.length : Int) - 1 then (grow l n.toNat true, true) else ([], false)

end Go.Proofs.YtccnhhdcdamgmaaDoor.Lg
