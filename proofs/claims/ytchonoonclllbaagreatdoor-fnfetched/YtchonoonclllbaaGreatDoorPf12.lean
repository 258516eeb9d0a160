/- Texts in one: Lg2, Sr2, GetT, GetTs. -/
import Derived.Test.YtchonoonclllbaaGreatDoorPf11
namespace Go.Proofs.YtchonoonclllbaaGreatDoor.Lg
open Go.RowKit Go.Proofs.YtchonoonclllbaaGreatDoor.Mem Go.Proofs.YtchonoonclllbaaGreatDoor.Laws Go.Proofs.YtchonoonclllbaaGreatDoor.Bytes Go.Proofs.YtchonoonclllbaaGreatDoor.Sha Go.Proofs.YtchonoonclllbaaGreatDoor.Tr Go.Proofs.YtchonoonclllbaaGreatDoor.He
set_option linter.unusedVariables false
set_option linter.unusedSimpArgs false
def extend (l : List ByteArray) (hd : Hd) (t : List Hd) (h : Hd) (x : List ByteArray) : List ByteArray × Hd × Int :=
 if logOk l hd = true ∧ okH h = true ∧ h.n = ((l ++ x).length : Int) then
  if signed t h = true then
   if x.length = 0 then (l, hd, 3) else if eqH h (headOf (l ++ x)) = true then (l ++ x, h, 0) else (l, hd, 4)
  else (l, hd, 2)
 else (l, hd, 1)
theorem extend1 {l : List ByteArray} {hd : Hd} {h : Hd} {x : List ByteArray} (hk : ¬ (logOk l hd = true ∧ okH h = true ∧ h.n = ((l ++ x).length : Int))) (t : List Hd) : extend l hd t h x = (l, hd, 1) := by unfold extend; rw [if_neg hk]
theorem extend2 {l : List ByteArray} {hd : Hd} {t : List Hd} {h : Hd} {x : List ByteArray} (hk : logOk l hd = true ∧ okH h = true ∧ h.n = ((l ++ x).length : Int)) (hs : signed t h = false) : extend l hd t h x = (l, hd, 2) := by unfold extend; rw [if_pos hk, if_neg (by simp [hs])]
theorem extend3 {l : List ByteArray} {hd : Hd} {t : List Hd} {h : Hd} {x : List ByteArray} (hk : logOk l hd = true ∧ okH h = true ∧ h.n = ((l ++ x).length : Int)) (hs : signed t h = true) (hx : x.length = 0) : extend l hd t h x = (l, hd, 3) := by unfold extend; rw [if_pos hk, if_pos hs, if_pos hx]
theorem extend4 {l : List ByteArray} {hd : Hd} {t : List Hd} {h : Hd} {x : List ByteArray} (hk : logOk l hd = true ∧ okH h = true ∧ h.n = ((l ++ x).length : Int)) (hs : signed t h = true) (hx : ¬ x.length = 0) (he : eqH h (headOf (l ++ x)) = false) : extend l hd t h x = (l, hd, 4) := by unfold extend; rw [if_pos hk, if_pos hs, if_neg hx, if_neg (by simp [he])]
theorem extend0 {l : List ByteArray} {hd : Hd} {t : List Hd} {h : Hd} {x : List ByteArray} (hk : logOk l hd = true ∧ okH h = true ∧ h.n = ((l ++ x).length : Int)) (hs : signed t h = true) (hx : ¬ x.length = 0) (he : eqH h (headOf (l ++ x)) = true) : extend l hd t h x = (l ++ x, h, 0) := by unfold extend; rw [if_pos hk, if_pos hs, if_neg hx, if_pos he]
theorem size_app {l x : List ByteArray} {N : Nat} (h1 : ∀ s ∈ l, s.size ≤ N) (h2 : ∀ s ∈ x, s.size ≤ N) : ∀ s ∈ l ++ x, s.size ≤ N := by
 intro s hs
 rcases List.mem_append.1 hs with h | h
 ·
  exact h1 s h
 ·
  exact h2 s h
set_option maxRecDepth 1000000 in
set_option maxHeartbeats 8000000 in
theorem extend_spec (w : World) (v vt vx : Value) (l x : List ByteArray) (hd h : Hd) (t : List Hd) (hs : Sl w v (ss l)) (ht : Sh w vt t) (hsx : Sl w vx (ss x)) (hl : l.length ≤ 1000000000) (htl : t.length ≤ 1000000000) (hx : x.length ≤ 1000000000) (hz : ∀ s ∈ l, s.size ≤ 10000000000) (hzx : ∀ s ∈ x, s.size ≤ 10000000000) :
  Calls Tryz.prog 174 #[.agg #[v, .int .i64 hd.n, .string hd.r], vt, .agg #[.int .i64 h.n, .string h.r], vx] w fun e w' => ∃ v', e = .returned (.tuple #[.agg #[v', .int .i64 (extend l hd t h x).2.1.n, .string (extend l hd t h x).2.1.r], .int .i64 (extend l hd t h x).2.2]) ∧ Own w' w.heap.size w'.heap.size 9 v' (ss (extend l hd t h x).1) ∧ Below w.heap.size w w' := by
 obtain ⟨i0, hi, hz0, hz1, hz2⟩ := info_parts info9t
 have HS : Hid (Sl w v (ss l)) := hs
 have HSX : Hid (Sl w vx (ss x)) := hsx
 have HT : Hid (Sh w vt t) := ht
 obtain ⟨ao0, cap0, rfl, hc0⟩ := hs.form
 obtain ⟨ao1, cap1, rfl, hc1⟩ := hsx.form
 obtain ⟨ao2, cap2, rfl, hc2⟩ := ht.form
 simp only [ss_len] at *
 clear hs hsx ht
 have B0 : Hid (Below w.heap.size w w) := Below.refl _ _
 obtain ⟨W1, HW1, b1, y1, hS1, r_a1, r_h1, r_res1⟩ := Ke.l3 w #[.slice ao0 l.length cap0, .int .i64 hd.n, .string hd.r] 28 #[.int .i64 h.n, .string h.r] 26 #[.slice none 0 0, .int .i64 0, .string ⟨#[]⟩] 28
 have z1 := b1.size
 have B1 := Ke.b B0 b1
 have hqA : ∀ W v1, Sl W v1 (ss l) → _ := fun W v1 h1 => logok_spec W v1 l hd h1 (by omega) hz
 have hqO : ∀ W v1, Sl W v1 (ss (l ++ x)) → _ := fun W v1 h1 => headOf_spec W v1 (l ++ x) h1 (by rw [List.length_append]; omega) (size_app hz hzx)
 have hqH : ∀ W, _ := fun W => ok_spec W h
 have hqS : ∀ W v1, Sh W v1 t → _ := fun W v1 h1 => signed_spec W v1 t h h1 (by omega)
 have hall : ((l ++ x).length : Int) = ((l.length + x.length : Nat) : Int) := by rw [List.length_append]
 have HALL : Hid (((l ++ x).length : Int) = ((l.length + x.length : Nat) : Int)) := hall
 clear hall
 obtain ⟨A, hA⟩ : ∃ A, logOk l hd = A := ⟨_, rfl⟩
 obtain ⟨C, hC⟩ : ∃ A, okH h = A := ⟨_, rfl⟩
 obtain ⟨D, hD⟩ : ∃ A, signed t h = A := ⟨_, rfl⟩
 obtain ⟨M, hM⟩ : ∃ A, headOf (l ++ x) = A := ⟨_, rfl⟩
 obtain ⟨E, hE⟩ : ∃ A, eqH h M = A := ⟨_, rfl⟩
 have e1 : ∀ W, _ := fun W => neqH W h M
 have e2 : ∀ W op y z xs ys, _ := fun W op y z xs ys => grdH W op y z xs ys
 simp only [hA] at hqA
 simp only [hC] at hqH
 simp only [hD] at hqS
 simp only [hM] at hqO
 simp only [hE] at e1
 have HA : Hid (logOk l hd = A) := hA
 have HC : Hid (okH h = C) := hC
 have HD : Hid (signed t h = D) := hD
 have HE : Hid (eqH h (headOf (l ++ x)) = E) := by show _ = _; rw [hM]; exact hE
 clear hA hC hD hM hE hz hzx
 obtain ⟨R, hR⟩ : ∃ R, extend l hd t h x = R := ⟨_, rfl⟩
 have HR : Hid (extend l hd t h x = R) := hR
 rw [hR]
 clear hR
 go_enter Tryz.func174, Tryz.ntmps174
 go_wp2_with fail
 rw [HW1.out]
 refine (copy_spec W1 _ l hd (HS.out.later B1.out) hl).mono ?_
 rintro e W2 ⟨v_s, rfl, o_s2, b2⟩
 obtain ⟨ao_s, L_s, cap_s, rfl, hL_s, hM_s⟩ := o_s2.form
 have o_s2 : Hid (Own W2 W1.heap.size W2.heap.size 9 (.slice ao_s L_s cap_s) (ss l)) := o_s2
 clear hL_s hM_s
 have z2 := b2.size
 have B2 := Ke.b B1 b2
 have r_a2 := Ke.r r_a1 b2
 have r_h2 := Ke.r r_h1 b2
 have r_res2 := Ke.r r_res1 b2
 clear r_a1 r_h1 r_res1
 obtain ⟨W3, HW3, b3, y3, hS3, r_same3⟩ := Ke.l1 W2 #[.slice ao_s L_s cap_s, .int .i64 hd.n, .string hd.r] 28
 have z3 := b3.size
 have B3 := Ke.b B2 b3
 have r_a3 := Ke.r r_a2 b3
 have r_h3 := Ke.r r_h2 b3
 have r_res3 := Ke.r r_res2 b3
 have o_s3 := Ke.o o_s2 b3
 have c_a3 := Ke.c r_a3
 have a_a3 := Ke.a r_a3
 have c_a3 := Ke.c r_a3
 have a_a3 := Ke.a r_a3
 have c_a3 := Ke.c r_a3
 have a_a3 := Ke.a r_a3
 have c_h3 := Ke.c r_h3
 have a_h3 := Ke.a r_h3
 have c_h3 := Ke.c r_h3
 have a_h3 := Ke.a r_h3
 have c_res3 := Ke.c r_res3
 have a_res3 := Ke.a r_res3
 have c_res3 := Ke.c r_res3
 have a_res3 := Ke.a r_res3
 have c_res3 := Ke.c r_res3
 have a_res3 := Ke.a r_res3
 have c_same3 := Ke.c r_same3
 have a_same3 := Ke.a r_same3
 have c_same3 := Ke.c r_same3
 have a_same3 := Ke.a r_same3
 have c_same3 := Ke.c r_same3
 have a_same3 := Ke.a r_same3
 clear r_a2 r_h2 r_res2 o_s2
 have aa_a3_0 := a_a3
 rw [← HW3.out] at aa_a3_0
 have aa_a3_1 := a_a3
 rw [← HW3.out] at aa_a3_1
 have aa_a3_2 := a_a3
 rw [← HW3.out] at aa_a3_2
 have aa_h3_0 := a_h3
 rw [← HW3.out] at aa_h3_0
 have aa_h3_1 := a_h3
 rw [← HW3.out] at aa_h3_1
 have aa_res3_0 := a_res3
 rw [← HW3.out] at aa_res3_0
 have aa_res3_1 := a_res3
 rw [← HW3.out] at aa_res3_1
 have aa_res3_2 := a_res3
 rw [← HW3.out] at aa_res3_2
 have aa_same3_0 := a_same3
 rw [← HW3.out] at aa_same3_0
 have aa_same3_1 := a_same3
 rw [← HW3.out] at aa_same3_1
 have aa_same3_2 := a_same3
 rw [← HW3.out] at aa_same3_2
 have oE4 : Hid (Own (W3.alloc (.cells #[] 9)) W3.heap.size (W3.alloc (.cells #[] 9)).heap.size 9 (.slice (some ⟨W2.heap.size + 1, 0, none⟩) 0 0) (ss [])) := by show Own _ _ _ _ _ _; have h := emptyT W3 W3.heap.size (Nat.le_refl _); rw [hS3.out] at h ⊢; exact h
 have c6_4 : (ss []).length + (ss l).length ≤ maxLen := (by rw [ss_len, ss_len]; unfold maxLen; (try simp only [List.length_nil]); omega)
 have c7_4 : ((ss []).length + (ss l).length) * 16 ≤ 140737488355328 := (by rw [ss_len, ss_len]; (try simp only [List.length_nil]); omega)
 have sE4 : Hid (Sl (W3.alloc (.cells #[] 9)) _ (ss l)) := HS.out.later (B3.out.alloc B3.out.size _)
 go_wp2_with (at_builtin; rw [HW3.out]; go_must (refine wpl_app _ rfl (.tmp 14) (.tmp 16) 24 rfl 9 i0 (.string ⟨#[]⟩) 16 Tryz.underlying24 hi hz0 hz1 hz2 rfl (W3.heap.size) _ (ss []) rfl oE4.out _ rfl (ss l) sE4.out (ss_one l) c6_4 c7_4 (by simp) ?_))
 intro v_p W4 o_p4 q4 _
 clear aa_a3_0 aa_a3_1 aa_a3_2 aa_h3_0 aa_h3_1 aa_res3_0 aa_res3_1 aa_res3_2 aa_same3_0 aa_same3_1 aa_same3_2
 have b4 : Below W3.heap.size W3 W4 := ((Below.refl _ _).alloc (Nat.le_refl _) _).trans q4
 obtain ⟨ao_p, L_p, cap_p, rfl, _, _⟩ := o_p4.form
 have o_p4 : Hid (Own W4 (W3.heap.size) W4.heap.size 9 (.slice ao_p L_p cap_p) (ss l)) := o_p4
 clear q4 oE4 sE4 c6_4 c7_4
 have z4 := b4.size
 have B4 := Ke.b B3 b4
 have r_a4 := Ke.r r_a3 b4
 have r_h4 := Ke.r r_h3 b4
 have r_res4 := Ke.r r_res3 b4
 have r_same4 := Ke.r r_same3 b4
 have o_s4 := Ke.o o_s3 b4
 clear r_a3 c_a3 a_a3 r_h3 c_h3 a_h3 r_res3 c_res3 a_res3 r_same3 c_same3 a_same3 o_s3
 have c6_5 : (ss l).length + (ss x).length ≤ maxLen := (by rw [ss_len, ss_len]; unfold maxLen; (try simp only [List.length_nil]); omega)
 have c7_5 : ((ss l).length + (ss x).length) * 16 ≤ 140737488355328 := (by rw [ss_len, ss_len]; (try simp only [List.length_nil]); omega)
 have sE5 : Hid (Sl W4 _ (ss x)) := HSX.out.later B4.out
 go_wp2_with (at_builtin; go_must (refine wpl_app _ rfl (.tmp 17) (.tmp 18) 24 rfl 9 i0 (.string ⟨#[]⟩) 16 Tryz.underlying24 hi hz0 hz1 hz2 rfl (W3.heap.size) _ (ss l) rfl (Own.mono o_p4.out (Nat.le_refl _) (by omega)) _ rfl (ss x) sE5.out (ss_one x) c6_5 c7_5 (by omega) ?_))
 intro v_all W5 o_all5 q5 _
 obtain ⟨ao_all, L_all, cap_all, rfl, _, _⟩ := o_all5.form
 have o_all5 : Hid (Own W5 (W3.heap.size) W5.heap.size 9 (.slice ao_all L_all cap_all) (ss (l ++ x))) := by show Own _ _ _ _ _ _; rw [ss_app]; exact o_all5
 have z5 : W4.heap.size ≤ W5.heap.size := q5.size
 have B5 : Hid (Below w.heap.size w W5) := B4.out.trans (q5.mono (by have := B4.out.size; omega))
 have r_a5 : Hid (W5.heap[w.heap.size]? = some (.cells #[.slice ao0 l.length cap0, .int .i64 hd.n, .string hd.r] 28 (0, 0))) := (q5.block (w.heap.size) (by omega)).trans r_a4.out
 have r_h5 : Hid (W5.heap[w.heap.size + 1]? = some (.cells #[.int .i64 h.n, .string h.r] 26 (0, 0))) := (q5.block (w.heap.size + 1) (by omega)).trans r_h4.out
 have r_res5 : Hid (W5.heap[w.heap.size + 1 + 1]? = some (.cells #[.slice none 0 0, .int .i64 0, .string ⟨#[]⟩] 28 (0, 0))) := (q5.block (w.heap.size + 1 + 1) (by omega)).trans r_res4.out
 have r_same5 : Hid (W5.heap[W2.heap.size]? = some (.cells #[.slice ao_s L_s cap_s, .int .i64 hd.n, .string hd.r] 28 (0, 0))) := (q5.block (W2.heap.size) (by omega)).trans r_same4.out
 have o_s5 : Hid (Own W5 (W1.heap.size) (W2.heap.size) 9 (.slice ao_s L_s cap_s) (ss l)) := Own.later o_s4.out q5 (by omega)
 have c_a5 := Ke.c r_a5
 clear r_a4 r_h4 r_res4 r_same4 o_s4 o_p4
 clear q5 sE5 c6_5 c7_5
 have hLall : L_all ≤ l.length + x.length ∧ l.length + x.length ≤ L_all := by obtain ⟨a9, L9, c9, he, h1, h2⟩ := Mem.Own.form o_all5.out; injection he with _ he2 _; rw [ss_len, List.length_append] at h1 h2; omega
 go_wp2_with fail
 refine (hqA W5 _ (HS.out.later B5.out)).mono ?_
 rintro e W6 ⟨rfl, b6⟩
 have z6 := b6.size
 have B6 := Ke.b B5 b6
 have r_h6 := Ke.r r_h5 b6
 have r_res6 := Ke.r r_res5 b6
 have r_same6 := Ke.r r_same5 b6
 have o_s6 := Ke.o o_s5 b6
 have o_all6 := Ke.o o_all5 b6
 have c_h6 := Ke.c r_h6
 clear r_a5 c_a5 r_h5 r_res5 r_same5 o_s5 o_all5
 cases A
 ·
  have hA := HA.out
  have HN : Hid (R = (l, hd, 1)) := by show _ = _; rw [← HR.out]; exact extend1 (fun hk => by rw [hA] at hk; exact absurd hk.1 (by simp)) t
  go_wp2_with (first | (refine wpList_load_row rfl 28 _ rfl (W2.heap.size) rfl 28 (lc (.slice ao_s L_s cap_s) hd) (0, 0) _ r_same6.out Tryz.underlying28 rfl (sizeL _ _) ?_) | (refine wpList_store_row rfl 28 _ _ rfl (w.heap.size + 1 + 1) (lc (.slice ao_s L_s cap_s) hd) rfl rfl 28 _ r_res6.out (sizeL _ _) rfl (oneL _ rfl) ?_))
  refine bodyPost_ret (res_row_tmp rfl _ _ (w.heap.size + 1 + 1) 28 (lc (.slice ao_s L_s cap_s) hd) (0, 0) _ rfl (setRow_heap _ _ _ _ _ (0, 0) r_res6.out) Tryz.underlying28 rfl (sizeL _ _)) rfl ⟨.slice ao_s L_s cap_s, by rw [HN.out]; rfl, ?_, below_setRow B6.out (by omega) _⟩
  rw [HN.out]
  exact (Own.setRow o_s6.out _ (by omega)).mono (by omega) (by rw [size_setRow]; omega)
 ·
  go_wp2_with fail
  refine (hqH W6).mono ?_
  rintro e W7 ⟨rfl, b7⟩
  have z7 := b7.size
  have B7 := Ke.b B6 b7
  have r_h7 := Ke.r r_h6 b7
  have r_res7 := Ke.r r_res6 b7
  have r_same7 := Ke.r r_same6 b7
  have o_s7 := Ke.o o_s6 b7
  have o_all7 := Ke.o o_all6 b7
  have c_h7 := Ke.c r_h7
  clear r_h6 c_h6 r_res6 r_same6 o_s6 o_all6
  cases C
  ·
   have hC := HC.out
   have HN : Hid (R = (l, hd, 1)) := by show _ = _; rw [← HR.out]; exact extend1 (fun hk => by rw [hC] at hk; exact absurd hk.2.1 (by simp)) t
   go_wp2_with (first | (refine wpList_load_row rfl 28 _ rfl (W2.heap.size) rfl 28 (lc (.slice ao_s L_s cap_s) hd) (0, 0) _ r_same7.out Tryz.underlying28 rfl (sizeL _ _) ?_) | (refine wpList_store_row rfl 28 _ _ rfl (w.heap.size + 1 + 1) (lc (.slice ao_s L_s cap_s) hd) rfl rfl 28 _ r_res7.out (sizeL _ _) rfl (oneL _ rfl) ?_))
   refine bodyPost_ret (res_row_tmp rfl _ _ (w.heap.size + 1 + 1) 28 (lc (.slice ao_s L_s cap_s) hd) (0, 0) _ rfl (setRow_heap _ _ _ _ _ (0, 0) r_res7.out) Tryz.underlying28 rfl (sizeL _ _)) rfl ⟨.slice ao_s L_s cap_s, by rw [HN.out]; rfl, ?_, below_setRow B7.out (by omega) _⟩
   rw [HN.out]
   exact (Own.setRow o_s7.out _ (by omega)).mono (by omega) (by rw [size_setRow]; omega)
  ·
   by_cases hn : h.n = (L_all : Int)
   ·
    have hk : logOk l hd = true ∧ okH h = true ∧ h.n = ((l ++ x).length : Int) := ⟨HA.out, HC.out, by rw [HALL.out, hn]; omega⟩
    have HK : Hid (logOk l hd = true ∧ okH h = true ∧ h.n = ((l ++ x).length : Int)) := hk
    have nn : (h.n != (L_all : Int)) = false := by simp [hn]
    have ne : (h.n == (L_all : Int)) = true := by simp [hn]
    clear hk hn
    go_wp2_with fail
    refine (hqS W7 _ (HT.out.later B7.out)).mono ?_
    rintro e W8 ⟨rfl, b8⟩
    have z8 := b8.size
    have B8 := Ke.b B7 b8
    have r_h8 := Ke.r r_h7 b8
    have r_res8 := Ke.r r_res7 b8
    have r_same8 := Ke.r r_same7 b8
    have o_s8 := Ke.o o_s7 b8
    have o_all8 := Ke.o o_all7 b8
    have c_h8 := Ke.c r_h8
    clear r_h7 c_h7 r_res7 r_same7 o_s7 o_all7
    cases D
    ·
     have HN : Hid (R = (l, hd, 2)) := by show _ = _; rw [← HR.out]; exact extend2 HK.out HD.out
     go_wp2_with (first | (refine wpList_load_row rfl 28 _ rfl (W2.heap.size) rfl 28 (lc (.slice ao_s L_s cap_s) hd) (0, 0) _ r_same8.out Tryz.underlying28 rfl (sizeL _ _) ?_) | (refine wpList_store_row rfl 28 _ _ rfl (w.heap.size + 1 + 1) (lc (.slice ao_s L_s cap_s) hd) rfl rfl 28 _ r_res8.out (sizeL _ _) rfl (oneL _ rfl) ?_))
     refine bodyPost_ret (res_row_tmp rfl _ _ (w.heap.size + 1 + 1) 28 (lc (.slice ao_s L_s cap_s) hd) (0, 0) _ rfl (setRow_heap _ _ _ _ _ (0, 0) r_res8.out) Tryz.underlying28 rfl (sizeL _ _)) rfl ⟨.slice ao_s L_s cap_s, by rw [HN.out]; rfl, ?_, below_setRow B8.out (by omega) _⟩
     rw [HN.out]
     exact (Own.setRow o_s8.out _ (by omega)).mono (by omega) (by rw [size_setRow]; omega)
    ·
     by_cases hx0 : x.length = 0
     ·
      have gx : (x.length : Int) = 0 := by omega
      have HX0 : Hid (x.length = 0) := hx0
      clear hx0
      have HN : Hid (R = (l, hd, 3)) := by show _ = _; rw [← HR.out]; exact extend3 HK.out HD.out HX0.out
      go_wp2_with (first | (refine wpList_load_row rfl 28 _ rfl (W2.heap.size) rfl 28 (lc (.slice ao_s L_s cap_s) hd) (0, 0) _ r_same8.out Tryz.underlying28 rfl (sizeL _ _) ?_) | (refine wpList_store_row rfl 28 _ _ rfl (w.heap.size + 1 + 1) (lc (.slice ao_s L_s cap_s) hd) rfl rfl 28 _ r_res8.out (sizeL _ _) rfl (oneL _ rfl) ?_))
      refine bodyPost_ret (res_row_tmp rfl _ _ (w.heap.size + 1 + 1) 28 (lc (.slice ao_s L_s cap_s) hd) (0, 0) _ rfl (setRow_heap _ _ _ _ _ (0, 0) r_res8.out) Tryz.underlying28 rfl (sizeL _ _)) rfl ⟨.slice ao_s L_s cap_s, by rw [HN.out]; rfl, ?_, below_setRow B8.out (by omega) _⟩
      rw [HN.out]
      exact (Own.setRow o_s8.out _ (by omega)).mono (by omega) (by rw [size_setRow]; omega)
     ·
      have gx : ¬ (x.length : Int) = 0 := by omega
      go_wp2_with fail
      refine wp_region_held_drew (S := fun w' => w'.cell? ⟨w.heap.size + 1, 0, none⟩ = some (.int .i64 h.n) ∧ w'.cell? ⟨w.heap.size + 1, 1, none⟩ = some (.string h.r)) (by kernel_rfl) ⟨(c_h8 0), (c_h8 1)⟩ (fun hHeld => ?_)
      refine Ke.y 0 rfl (fun _ _ _ h => h) ?_
      try simp only [Act.put, pu1, pu2, pu3, pu4, pu5, pu6]
      refine Ke.y 1 rfl (fun _ _ _ h => h) ?_
      try simp only [Act.put, pu1, pu2, pu3, pu4, pu5, pu6]
      refine Ke.z 2 rfl (fun K hK => ?_)
      go_simp
      refine (hqO W8.drew _ (Own.sl (w := W8.drew) o_all8.out)).mono ?_
      rintro e W9 ⟨rfl, b9⟩
      have b9 : Below W8.heap.size W8 W9 := (Below.drew (Below.refl _ _)).trans b9
      refine hK.out _ _ ⟨keepR (W := W8) hHeld.1 b9, keepR (W := W8) hHeld.2 b9⟩ (fun hHeld => ?_)
      clear hK K
      try simp only [Act.put, pu1, pu2, pu3, pu4, pu5, pu6]
      have z9 := b9.size
      have B9 := Ke.b B8 b9
      have r_h9 := Ke.r r_h8 b9
      have r_res9 := Ke.r r_res8 b9
      have r_same9 := Ke.r r_same8 b9
      have o_s9 := Ke.o o_s8 b9
      have o_all9 := Ke.o o_all8 b9
      have c_h9 := Ke.c r_h9
      clear r_h8 c_h8 r_res8 r_same8 o_s8 o_all8
      refine Ke.y 3 rfl (fun _ _ _ h => h) ?_
      try simp only [Act.put, pu1, pu2, pu3, pu4, pu5, pu6]
      refine Ke.y 4 rfl (fun _ _ _ h => h) ?_
      try simp only [Act.put, pu1, pu2, pu3, pu4, pu5, pu6]
      refine wpAnyH_done (by kernel_rfl) ?_ _
      clear hHeld
      cases E
      ·
       have HN : Hid (R = (l, hd, 4)) := by show _ = _; rw [← HR.out]; exact extend4 HK.out HD.out hx0 HE.out
       go_wp2_with (first | (refine wpList_load_row rfl 28 _ rfl (W2.heap.size) rfl 28 (lc (.slice ao_s L_s cap_s) hd) (0, 0) _ r_same9.out Tryz.underlying28 rfl (sizeL _ _) ?_) | (refine wpList_store_row rfl 28 _ _ rfl (w.heap.size + 1 + 1) (lc (.slice ao_s L_s cap_s) hd) rfl rfl 28 _ r_res9.out (sizeL _ _) rfl (oneL _ rfl) ?_))
       refine bodyPost_ret (res_row_tmp rfl _ _ (w.heap.size + 1 + 1) 28 (lc (.slice ao_s L_s cap_s) hd) (0, 0) _ rfl (setRow_heap _ _ _ _ _ (0, 0) r_res9.out) Tryz.underlying28 rfl (sizeL _ _)) rfl ⟨.slice ao_s L_s cap_s, by rw [HN.out]; rfl, ?_, below_setRow B9.out (by omega) _⟩
       rw [HN.out]
       exact (Own.setRow o_s9.out _ (by omega)).mono (by omega) (by rw [size_setRow]; omega)
      ·
       have HN : Hid (R = (l ++ x, h, 0)) := by show _ = _; rw [← HR.out]; exact extend0 HK.out HD.out hx0 HE.out
       go_wp2_with (refine wpList_store_row rfl 28 _ _ rfl (w.heap.size + 1 + 1) (lc (.slice ao_all L_all cap_all) h) rfl rfl 28 _ r_res9.out (sizeL _ _) rfl (oneL _ rfl) ?_)
       refine bodyPost_ret (res_row_tmp rfl _ _ (w.heap.size + 1 + 1) 28 (lc (.slice ao_all L_all cap_all) h) (0, 0) _ rfl (setRow_heap _ _ _ _ _ (0, 0) r_res9.out) Tryz.underlying28 rfl (sizeL _ _)) rfl ⟨.slice ao_all L_all cap_all, by rw [HN.out]; rfl, ?_, below_setRow B9.out (by omega) _⟩
       rw [HN.out]
       exact (Own.setRow o_all9.out _ (by omega)).mono (by omega) (by rw [size_setRow]; omega)
   ·
    have nn : (h.n != (L_all : Int)) = true := by simp [hn]
    have ne : (h.n == (L_all : Int)) = false := by simp [hn]
    have HN : Hid (R = (l, hd, 1)) := by show _ = _; rw [← HR.out]; exact extend1 (fun hk => hn (by rw [hk.2.2, HALL.out]; omega)) t
    go_wp2_with (first | (refine wpList_load_row rfl 28 _ rfl (W2.heap.size) rfl 28 (lc (.slice ao_s L_s cap_s) hd) (0, 0) _ r_same7.out Tryz.underlying28 rfl (sizeL _ _) ?_) | (refine wpList_store_row rfl 28 _ _ rfl (w.heap.size + 1 + 1) (lc (.slice ao_s L_s cap_s) hd) rfl rfl 28 _ r_res7.out (sizeL _ _) rfl (oneL _ rfl) ?_))
    refine bodyPost_ret (res_row_tmp rfl _ _ (w.heap.size + 1 + 1) 28 (lc (.slice ao_s L_s cap_s) hd) (0, 0) _ rfl (setRow_heap _ _ _ _ _ (0, 0) r_res7.out) Tryz.underlying28 rfl (sizeL _ _)) rfl ⟨.slice ao_s L_s cap_s, by rw [HN.out]; rfl, ?_, below_setRow B7.out (by omega) _⟩
    rw [HN.out]
    exact (Own.setRow o_s7.out _ (by omega)).mono (by omega) (by rw [size_setRow]; omega)
end Go.Proofs.YtchonoonclllbaaGreatDoor.Lg
namespace Go.Proofs.YtchonoonclllbaaGreatDoor.Sr
open Go.RowKit Go.Proofs.YtchonoonclllbaaGreatDoor.Mem Go.Proofs.YtchonoonclllbaaGreatDoor.Laws Go.Proofs.YtchonoonclllbaaGreatDoor.Sha Go.Proofs.YtchonoonclllbaaGreatDoor.Tr Go.Proofs.YtchonoonclllbaaGreatDoor.He Go.Proofs.YtchonoonclllbaaGreatDoor.Lg
set_option linter.unusedVariables false
set_option linter.unusedSimpArgs false
structure Sto where
 l : List ByteArray
 h : Hd
 b : List Int
 s : Int
def new12 : Sto := ⟨[], headOf [], [], 0⟩
def replayF : Nat → List Int → Nat → List ByteArray → Hd → List ByteArray × Hd × Bool
 | 0, _, _, l, hd => (l, hd, true)
 | f + 1, xs, a, l, hd =>
  if a < xs.length then
   if (getC xs (a : Int)).2.2.2 = true ∧ l.length + (getC xs (a : Int)).2.1.length ≤ 200 then
    if eqH (getC xs (a : Int)).1 (headOf (l ++ (getC xs (a : Int)).2.1)) = true then
     replayF f xs (getC xs (a : Int)).2.2.1.toNat (l ++ (getC xs (a : Int)).2.1) (getC xs (a : Int)).1
    else (l ++ (getC xs (a : Int)).2.1, (getC xs (a : Int)).1, false)
   else (l, hd, false)
  else (l, hd, true)
def replay (xs : List Int) : List ByteArray × Hd × Bool := replayF xs.length xs 0 [] (headOf [])
def storeOk (st : Sto) : Bool := logOk st.l st.h && decide (st.b.length ≤ 60000) && decide (0 ≤ st.s ∧ st.s ≤ (st.b.length : Int)) && (replay st.b).2.2 && decide ((replay st.b).1 = st.l)
def commit1 (st : Sto) (t : List Hd) (h : Hd) (x : List ByteArray) : Sto × Int :=
 if (extend st.l st.h t h x).2.2 = 0 then (⟨(extend st.l st.h t h x).1, (extend st.l st.h t h x).2.1, st.b ++ put h x, st.s⟩, 0) else (st, (extend st.l st.h t h x).2.2)
def commit (st : Sto) (t : List Hd) (h : Hd) (x : List ByteArray) : Sto × Int :=
 if storeOk st = true ∧ st.b.length + (put h x).length ≤ 60000 then commit1 st t h x else (st, 1)
def openF : Nat → List Hd → List Int → Nat → Sto → Nat → Sto × Nat
 | 0, _, _, _, st, n => (st, n)
 | f + 1, t, xs, a, st, n =>
  if a < xs.length then
   if (getC xs (a : Int)).2.2.2 = true ∧ (commit1 st t (getC xs (a : Int)).1 (getC xs (a : Int)).2.1).2 = 0 then
    openF f t xs (getC xs (a : Int)).2.2.1.toNat (commit1 st t (getC xs (a : Int)).1 (getC xs (a : Int)).2.1).1 (n + 1)
   else (st, n)
  else (st, n)
theorem extend_good {l x : List ByteArray} {hd h : Hd} {t : List Hd} (hc : (extend l hd t h x).2.2 = 0) :
  logOk l hd = true ∧ okH h = true ∧ signed t h = true ∧ 1 ≤ x.length ∧ (l ++ x).length ≤ 200 ∧ h = headOf (l ++ x) ∧ extend l hd t h x = (l ++ x, h, 0) := by
 unfold extend at hc
 split at hc
 ·
  rename_i hk
  split at hc
  ·
   rename_i hs
   split at hc
   ·
    simp at hc
   ·
    rename_i hx
    split at hc
    ·
     rename_i he
     have := okH_parts hk.2.1
     refine ⟨hk.1, hk.2.1, hs, by omega, by have := hk.2.2; omega, (eqH_iff _ _).1 he, extend0 hk hs hx he⟩
    ·
     simp at hc
  ·
   simp at hc
 ·
  simp at hc
theorem extend_of {l x : List ByteArray} {hd : Hd} {t : List Hd} (hk : logOk l hd = true) (hx : 1 ≤ x.length) (hl : (l ++ x).length ≤ 200) (hs : signed t (headOf (l ++ x)) = true) : extend l hd t (headOf (l ++ x)) x = (l ++ x, headOf (l ++ x), 0) := by
 have hn : (headOf (l ++ x)).n = ((l ++ x).length : Int) := by unfold headOf; rw [if_pos hl]
 have ho : okH (headOf (l ++ x)) = true := by
  unfold okH
  rw [decide_eq_true_eq, hn]
  refine ⟨⟨by omega, by omega⟩, ?_⟩
  unfold headOf
  rw [if_pos hl]
  exact root_size _
 exact extend0 ⟨hk, ho, hn⟩ hs (by omega) ((eqH_iff _ _).2 rfl)
theorem commit1_good {st : Sto} {t : List Hd} {h : Hd} {x : List ByteArray} (hc : (commit1 st t h x).2 = 0) :
  logOk st.l st.h = true ∧ okH h = true ∧ signed t h = true ∧ 1 ≤ x.length ∧ (st.l ++ x).length ≤ 200 ∧ h = headOf (st.l ++ x) ∧ (commit1 st t h x).1 = ⟨st.l ++ x, h, st.b ++ put h x, st.s⟩ := by
 unfold commit1 at hc ⊢
 split at hc
 ·
  rename_i he
  obtain ⟨a, b, c, d, e, f, g⟩ := extend_good he
  refine ⟨a, b, c, d, e, f, ?_⟩
  rw [g, if_pos rfl]
 ·
  rename_i he
  exact absurd hc he
theorem commit1_of {st : Sto} {t : List Hd} {x : List ByteArray} (hk : logOk st.l st.h = true) (hx : 1 ≤ x.length) (hl : (st.l ++ x).length ≤ 200) (hs : signed t (headOf (st.l ++ x)) = true) :
  commit1 st t (headOf (st.l ++ x)) x = (⟨st.l ++ x, headOf (st.l ++ x), st.b ++ put (headOf (st.l ++ x)) x, st.s⟩, 0) := by
 unfold commit1
 rw [extend_of hk hx hl hs, if_pos rfl]
theorem get_more {xs r : List Int} {a : Nat} {h : Hd} {x : List ByteArray} {p : Int} (hb : Byt xs) (hg : getC xs (a : Int) = (h, x, p, true)) : getC (xs ++ r) (a : Int) = (h, x, p, true) := by
 obtain ⟨q, rfl, hq, hqx, hk, h1, h2, hbl, hd⟩ := put_get hb hg
 have e : xs ++ r = xs.take a ++ (put h x ++ (xs.drop q ++ r)) := by
  rw [← List.append_assoc (put h x), ← hd, ← List.append_assoc, List.take_append_drop]
 have ea : (xs.take a).length = a := by rw [List.length_take]; omega
 have g := get_put (xs.take a) (xs.drop q ++ r) hk h1 h2 hbl
 rw [← e, ea, ← hq] at g
 exact g
theorem replay_app {h : Hd} {x L : List ByteArray} {H : Hd} (xs : List Int) (hb : Byt xs) (hk : okH h = true) (h1 : 1 ≤ x.length) (hl : (L ++ x).length ≤ 200) (hbl : (body h x).length ≤ 1000000000) (he : h = headOf (L ++ x)) :
  ∀ (f g a : Nat) (l : List ByteArray) (hd : Hd), a ≤ xs.length → xs.length - a ≤ f → (xs ++ put h x).length - a ≤ g → replayF f xs a l hd = (L, H, true) → replayF g (xs ++ put h x) a l hd = (L ++ x, h, true) := by
 have hp := put_pos h x
 have hlx : x.length ≤ 200 := by rw [List.length_append] at hl; omega
 have last : ∀ (g : Nat) (hd : Hd), 1 ≤ g → (xs ++ put h x).length - xs.length ≤ g → replayF g (xs ++ put h x) xs.length L hd = (L ++ x, h, true) := by
  intro g hd hg1 hg
  obtain ⟨g, rfl⟩ : ∃ k, g = k + 1 := ⟨g - 1, by omega⟩
  have gp := get_put xs [] hk h1 hlx hbl
  rw [List.append_nil] at gp
  rw [replayF, if_pos (by rw [List.length_append]; omega), gp]
  simp only [Int.toNat_natCast]
  rw [List.length_append] at hl
  rw [if_pos ⟨trivial, hl⟩, if_pos ((eqH_iff _ _).2 he)]
  cases g with
  | zero => rfl
  | succ g => rw [replayF, if_neg (by rw [List.length_append]; omega)]
 intro f
 induction f with
 | zero =>
  intro g a l hd ha hf hg hr
  have : a = xs.length := by omega
  subst this
  rw [replayF] at hr
  simp only [Prod.mk.injEq] at hr
  obtain ⟨rfl, rfl, _⟩ := hr
  exact last g hd (by rw [List.length_append] at hg; omega) hg
 | succ f ih =>
  intro g a l hd ha hf hg hr
  by_cases hlt : a < xs.length
  ·
   obtain ⟨h', x', p, ok, hgc⟩ : ∃ h' x' p ok, getC xs (a : Int) = (h', x', p, ok) := ⟨_, _, _, _, rfl⟩
   rw [replayF, if_pos hlt, hgc] at hr
   simp only at hr
   split at hr
   ·
    rename_i hc
    obtain ⟨rfl, hc⟩ := hc
    split at hr
    ·
     rename_i hee
     obtain ⟨q, rfl, hq, hqx, _⟩ := put_get hb hgc
     have hp' := put_pos h' x'
     obtain ⟨g, rfl⟩ : ∃ k, g = k + 1 := ⟨g - 1, by rw [List.length_append] at hg; omega⟩
     rw [replayF, if_pos (by rw [List.length_append]; omega), get_more hb hgc]
     simp only
     rw [if_pos ⟨trivial, hc⟩, if_pos hee]
     exact ih g _ _ _ (by simp only [Int.toNat_natCast]; omega) (by simp only [Int.toNat_natCast]; omega) (by simp only [Int.toNat_natCast]; omega) hr
    ·
     simp at hr
   ·
    simp at hr
  ·
   have : a = xs.length := by omega
   subst this
   rw [replayF, if_neg hlt] at hr
   simp only [Prod.mk.injEq] at hr
   obtain ⟨rfl, rfl, _⟩ := hr
   exact last g hd (by rw [List.length_append] at hg; omega) hg
def Good (st : Sto) : Prop := logOk st.l st.h = true ∧ replay st.b = (st.l, st.h, true) ∧ Byt st.b
theorem good_new : Good new12 := ⟨logOk_of (l := []) (by simp), rfl, fun x hx => by cases hx⟩
theorem good_commit {st : Sto} {t : List Hd} {h : Hd} {x : List ByteArray} (hg : Good st) (hc : (commit1 st t h x).2 = 0) (hbl : (body h x).length ≤ 1000000000) : Good (commit1 st t h x).1 := by
 obtain ⟨a, b, c, d, e, f, g⟩ := commit1_good hc
 rw [g]
 refine ⟨by rw [f]; exact logOk_of e, ?_, hg.2.2.app (put_byt h x)⟩
 exact replay_app st.b hg.2.2 b d e hbl f _ _ _ _ _ (Nat.zero_le _) (by omega) (Nat.le_refl _) hg.2.1
theorem good_ok {st : Sto} (hg : Good st) (hl : st.b.length ≤ 60000) (hs : 0 ≤ st.s ∧ st.s ≤ (st.b.length : Int)) : storeOk st = true := by
 unfold storeOk
 rw [hg.1, hg.2.1]
 simp [hl, hs]
theorem ok_parts {st : Sto} (h : storeOk st = true) : logOk st.l st.h = true ∧ st.b.length ≤ 60000 ∧ 0 ≤ st.s ∧ st.s ≤ (st.b.length : Int) ∧ (replay st.b).2.2 = true ∧ (replay st.b).1 = st.l := by
 unfold storeOk at h
 simp only [Bool.and_eq_true, decide_eq_true_eq] at h
 obtain ⟨⟨⟨⟨a, b⟩, c⟩, d⟩, e⟩ := h
 exact ⟨a, b, c.1, c.2, d, e⟩
theorem replay_head (xs : List Int) : ∀ (f a : Nat) (l : List ByteArray) (hd : Hd), hd = headOf l → (replayF f xs a l hd).2.2 = true → (replayF f xs a l hd).2.1 = headOf (replayF f xs a l hd).1 := by
 intro f
 induction f with
 | zero => intro a l hd h _; exact h
 | succ f ih =>
  intro a l hd h hr
  rw [replayF] at hr ⊢
  split
  ·
   rename_i h1
   rw [if_pos h1] at hr
   split
   ·
    rename_i h2
    rw [if_pos h2] at hr
    split
    ·
     rename_i h3
     rw [if_pos h3] at hr
     exact ih _ _ _ ((eqH_iff _ _).1 h3) hr
    ·
     rename_i h3
     rw [if_neg h3] at hr
     cases hr
   ·
    rename_i h2
    rw [if_neg h2] at hr
    cases hr
  ·
   exact h
theorem ok_good {st : Sto} (hb : Byt st.b) (h : storeOk st = true) : Good st := by
 obtain ⟨a, b, c, d, e, f⟩ := ok_parts h
 refine ⟨a, ?_, hb⟩
 have hh := replay_head st.b st.b.length 0 [] (headOf []) rfl e
 have h2 : (replay st.b).2.1 = headOf (replay st.b).1 := hh
 rw [f] at h2
 have h3 := (logOk_yes a).2
 exact Prod.ext f (Prod.ext (by rw [h3]; exact h2) e)
theorem commit_ok {st : Sto} {t : List Hd} {h : Hd} {x : List ByteArray} (hb : Byt st.b) (hc : (commit st t h x).2 = 0) : storeOk (commit st t h x).1 = true ∧ storeOk st = true ∧ st.b.length + (put h x).length ≤ 60000 ∧ commit st t h x = commit1 st t h x ∧ (commit1 st t h x).2 = 0 := by
 unfold commit at hc ⊢
 split at hc
 ·
  rename_i hk
  rw [if_pos hk]
  have hbl : (body h x).length ≤ 1000000000 := by
   have : (put h x).length = (Puts.num ((body h x).length : Int)).length + (body h x).length + 4 := by unfold put; simp only [List.length_append, sum4_len]; omega
   omega
  have hg := good_commit (ok_good hb hk.1) hc hbl
  obtain ⟨_, _, c, d, _, _⟩ := ok_parts hk.1
  obtain ⟨_, _, _, _, _, _, g⟩ := commit1_good hc
  refine ⟨good_ok hg (by rw [g]; simp only [List.length_append]; exact hk.2) ?_, hk.1, hk.2, rfl, hc⟩
  rw [g]
  simp only [List.length_append]
  omega
 ·
  simp at hc
def Made (t : List Hd) (st : Sto) : Prop := Good st ∧ ∀ g, st.b.length ≤ g → (openF g t st.b 0 new12 0).1.l = st.l ∧ (openF g t st.b 0 new12 0).1.h = st.h ∧ (openF g t st.b 0 new12 0).1.b = st.b
theorem made_new (t : List Hd) : Made t new12 := by
 refine ⟨good_new, fun g _ => ?_⟩
 cases g with
 | zero => exact ⟨rfl, rfl, rfl⟩
 | succ g => exact ⟨rfl, rfl, rfl⟩
theorem open_app {h : Hd} {x : List ByteArray} (t : List Hd) (xs : List Int) (hb : Byt xs) (S : Sto) (hk : okH h = true) (h1 : 1 ≤ x.length) (hlx : x.length ≤ 200) (hbl : (body h x).length ≤ 1000000000) (hS : S.b = xs) (hSl : ∀ T : Sto, T.l = S.l → T.h = S.h → (commit1 T t h x).2 = 0) :
  ∀ (f g a : Nat) (st : Sto) (n m : Nat), a ≤ xs.length → st.b = xs.take a → xs.length - a ≤ f → (xs ++ put h x).length - a ≤ g →
   (openF f t xs a st n).1.l = S.l → (openF f t xs a st n).1.h = S.h → (openF f t xs a st n).1.b = S.b → (openF g t (xs ++ put h x) a st m).1.l = S.l ++ x ∧ (openF g t (xs ++ put h x) a st m).1.h = h ∧ (openF g t (xs ++ put h x) a st m).1.b = S.b ++ put h x := by
 have hp := put_pos h x
 have last : ∀ (g : Nat) (st : Sto) (m : Nat), st.l = S.l → st.h = S.h → st.b = S.b → 1 ≤ g → (openF g t (xs ++ put h x) xs.length st m).1.l = S.l ++ x ∧ (openF g t (xs ++ put h x) xs.length st m).1.h = h ∧ (openF g t (xs ++ put h x) xs.length st m).1.b = S.b ++ put h x := by
  intro g st m e1 e2 e3 hg
  obtain ⟨g, rfl⟩ : ∃ k, g = k + 1 := ⟨g - 1, by omega⟩
  have gp := get_put xs [] hk h1 hlx hbl
  rw [List.append_nil] at gp
  have hc := hSl st e1 e2
  obtain ⟨_, _, _, _, _, _, hs⟩ := commit1_good hc
  rw [openF, if_pos (by rw [List.length_append]; omega), gp]
  simp only [Int.toNat_natCast]
  rw [if_pos ⟨trivial, hc⟩, hs]
  cases g with
  | zero => exact ⟨by rw [openF, e1], rfl, by rw [openF, e3]⟩
  | succ g =>
   rw [openF, if_neg (by rw [List.length_append]; omega)]
   exact ⟨by rw [e1], rfl, by rw [e3]⟩
 intro f
 induction f with
 | zero =>
  intro g a st n m ha hst hf hg e1 e2 e3
  have : a = xs.length := by omega
  subst this
  rw [openF] at e1 e2 e3
  exact last g st m e1 e2 e3 (by rw [List.length_append] at hg; omega)
 | succ f ih =>
  intro g a st n m ha hst hf hg e1 e2 e3
  by_cases hlt : a < xs.length
  ·
   obtain ⟨h', x', p, ok, hgc⟩ : ∃ h' x' p ok, getC xs (a : Int) = (h', x', p, ok) := ⟨_, _, _, _, rfl⟩
   rw [openF, if_pos hlt, hgc] at e1 e2 e3
   simp only at e1 e2 e3
   by_cases hc : ok = true ∧ (commit1 st t h' x').2 = 0
   ·
    rw [if_pos hc] at e1 e2 e3
    obtain ⟨rfl, hc⟩ := hc
    obtain ⟨q, rfl, hq, hqx, _, _, _, _, hd⟩ := put_get hb hgc
    have hp' := put_pos h' x'
    obtain ⟨_, _, _, _, _, _, hs⟩ := commit1_good hc
    obtain ⟨g, rfl⟩ : ∃ k, g = k + 1 := ⟨g - 1, by rw [List.length_append] at hg; omega⟩
    have hgm := get_more (r := put h x) hb hgc
    have hst2 : (commit1 st t h' x').1.b = xs.take q := by
     rw [hs]
     simp only
     rw [hst, hq]
     have e5 : xs.take (a + (put h' x').length) = xs.take a ++ (xs.drop a).take (put h' x').length := List.take_add ..
     rw [e5, hd, List.take_append_of_le_length (Nat.le_refl _), List.take_of_length_le (Nat.le_refl _)]
    have r := ih g q (commit1 st t h' x').1 (n + 1) (m + 1) hqx hst2 (by omega) (by omega) e1 e2 e3
    rw [openF, if_pos (by rw [List.length_append]; omega), hgm]
    simp only
    rw [if_pos ⟨trivial, hc⟩]
    exact r
   ·
    rw [if_neg hc] at e3
    simp only at e3
    rw [hst, hS] at e3
    have := congrArg List.length e3
    rw [List.length_take] at this
    omega
  ·
   have : a = xs.length := by omega
   subst this
   rw [openF, if_neg hlt] at e1 e2 e3
   exact last g st m e1 e2 e3 (by rw [List.length_append] at hg; omega)
theorem made_commit {t : List Hd} {st : Sto} {h : Hd} {x : List ByteArray} (hm : Made t st) (hc : (commit1 st t h x).2 = 0) (hbl : (body h x).length ≤ 1000000000) : Made t (commit1 st t h x).1 := by
 obtain ⟨a, b, c, d, e, f, g⟩ := commit1_good hc
 refine ⟨good_commit hm.1 hc hbl, fun k hk => ?_⟩
 rw [g] at hk ⊢
 simp only at hk ⊢
 have hlx : x.length ≤ 200 := by rw [List.length_append] at e; omega
 obtain ⟨e1, e2, e3⟩ := hm.2 st.b.length (Nat.le_refl _)
 have hSl : ∀ T : Sto, T.l = st.l → T.h = st.h → (commit1 T t h x).2 = 0 := by
  intro T e4 e5
  rw [f, ← e4]
  rw [commit1_of (by rw [e4, e5]; exact a) d (by rw [e4]; exact e) (by rw [e4, ← f]; exact c)]
 exact open_app t st.b hm.1.2.2 st b d hlx hbl rfl hSl st.b.length k 0 new12 0 0 (Nat.zero_le _) rfl (by omega) (by omega) e1 e2 e3
theorem made_sure {t : List Hd} {st : Sto} (hm : Made t st) (s : Int) : Made t ⟨st.l, st.h, st.b, s⟩ := ⟨⟨hm.1.1, hm.1.2.1, hm.1.2.2⟩, hm.2⟩
end Go.Proofs.YtchonoonclllbaaGreatDoor.Sr
namespace Go.Proofs.YtchonoonclllbaaGreatDoor.GetT
open Go.RowKit Go.Proofs.YtchonoonclllbaaGreatDoor.Mem Go.Proofs.YtchonoonclllbaaGreatDoor.Plain
set_option linter.unusedVariables false
theorem conv_none (ao : Option Addr) (c : Nat) (w : World) : (convert 22 9 (.slice ao 0 c)).run Tryz.prog w = .ok (.string ⟨#[]⟩) w := by
 cases ao with
 | none => rw [run_convert_bytes_string w 22 9 5 none 0 c Tryz.underlying22 Tryz.underlying5 Tryz.underlying9]; rfl
 | some a => exact run_convert_bytes_back w 22 9 5 a c [] Tryz.underlying22 Tryz.underlying5 Tryz.underlying9 (fun j hj => by simp at hj)
theorem conv_some {w : World} {xs : List Int} {b off p n c : Nat} (hb : Byt xs) (hcell : ∀ j, j < xs.length → w.cell? ⟨b, off + j, none⟩ = (bs xs)[j]?) (hn : p + n ≤ xs.length) :
  (convert 22 9 (.slice (some ⟨b, off + p, none⟩) n c)).run Tryz.prog w = .ok (.string (txt ((xs.drop p).take n))) w := by
 have hl : (u8s ((xs.drop p).take n)).length = n := by rw [u8s_len]; simp; omega
 have h := run_convert_bytes_back (P := Tryz.prog) w 22 9 5 ⟨b, off + p, none⟩ c (u8s ((xs.drop p).take n)) Tryz.underlying22 Tryz.underlying5 Tryz.underlying9 (fun j hj => by
  rw [hl] at hj
  rw [Addr.add_lit, Nat.add_assoc, hcell (p + j) (by omega), bs_get]
  have hx : xs[p + j]? = some (xs[p + j]'(by omega)) := by simp
  have hy := hb.at hx
  rw [hx]
  simp only [u8s, List.getElem_map, List.getElem_take, List.getElem_drop, Option.map_some]
  rw [u8_back hy])
 rw [hl] at h
 exact h
theorem rets {s s' : ByteArray} {b b' : Int} {c c' : Bool} (h1 : s = s') (h2 : b = b') (h3 : c = c') : Ending.returned (.tuple #[.string s, .int .i64 b, .bool c]) = .returned (.tuple #[.string s', .int .i64 b', .bool c']) := by rw [h1, h2, h3]
set_option maxRecDepth 1000000 in
set_option maxHeartbeats 1000000 in
theorem text_impl (w : World) (v : Value) (xs : List Int) (at_ : Int) (h : Sl w v (bs xs)) (hb : Byt xs) (hx : xs.length ≤ 140737488355328) (hlo : -9223372036854775808 ≤ at_) (hhi : at_ ≤ 9223372036854775807) :
  Calls Tryz.prog 188 #[v, .int .i64 at_] w fun e w' => e = .returned (.tuple #[.string (getText xs at_).1, .int .i64 (getText xs at_).2.1, .bool (getText xs at_).2.2]) ∧ w' = w := by
 have hget := Gets.get_impl w v xs at_ h hb hx hlo hhi
 obtain ⟨n, p, ok, hr⟩ : ∃ n p ok, getNum xs at_ = (n, p, ok) := ⟨_, _, _, rfl⟩
 rw [hr] at hget
 have HR : Hid (getNum xs at_ = (n, p, ok)) := hr
 clear hr
 obtain ⟨ao, cap, rfl, hc1, hnone, hr1⟩ := h
 rw [bs_len] at hr1 hc1 hget
 rw [bs_len]
 cases ok with
 | false =>
  have HG : Hid (getText xs at_ = (⟨#[]⟩, 0, false)) := getText_no HR.out (.inl rfl)
  go_enter Tryz.func188, Tryz.ntmps188
  go_wp2_with (go_at_call 186; refine hget.mono ?_; rintro e w' ⟨rfl, rfl⟩)
  go_ret3
  exact ⟨by rw [HG.out]; rfl, rfl⟩
 | true =>
  have hbd := getNum_bd HR.out
  obtain ⟨n, rfl⟩ := Int.eq_ofNat_of_zero_le hbd.1
  obtain ⟨p, rfl⟩ := Int.eq_ofNat_of_zero_le (show 0 ≤ p by omega)
  by_cases hbig : (xs.length : Int) - (p : Int) < (n : Int)
  ·
   have HG : Hid (getText xs at_ = (⟨#[]⟩, 0, false)) := getText_no HR.out (.inr hbig)
   go_enter Tryz.func188, Tryz.ntmps188
   go_wp2_with (go_at_call 186; refine hget.mono ?_; rintro e w' ⟨rfl, rfl⟩)
   go_ret3
   exact ⟨by rw [HG.out]; rfl, rfl⟩
  ·
   have HG : Hid (getText xs at_ = (txt ((xs.drop p).take n), (p : Int) + (n : Int), true)) := getText_yes HR.out (by omega)
   obtain ⟨b, off, rfl, hcell⟩ := hr1 (by omega)
   by_cases h0 : n = 0
   ·
    subst h0
    have hconv : ∀ ao c w, (convert 22 9 (.slice ao 0 c)).run Tryz.prog w = .ok (.string ⟨#[]⟩) w := conv_none
    have HT : Hid (txt ((xs.drop p).take 0) = ⟨#[]⟩) := rfl
    clear hr1 hcell
    go_enter Tryz.func188, Tryz.ntmps188
    go_wp2_with (go_at_call 186; refine hget.mono ?_; rintro e w' ⟨rfl, rfl⟩)
    all_goals go_ret3
    all_goals exact ⟨by rw [HG.out]; exact rets rfl (by dsimp only; omega) rfl, rfl⟩
   ·
    have hconv := conv_some (c := cap - p) hb hcell (show p + n ≤ xs.length by omega)
    clear hr1 hcell
    go_enter Tryz.func188, Tryz.ntmps188
    go_wp2_with (go_at_call 186; refine hget.mono ?_; rintro e w' ⟨rfl, rfl⟩)
    all_goals go_ret3
    all_goals exact ⟨by rw [HG.out]; exact rets rfl (by dsimp only) rfl, rfl⟩
end Go.Proofs.YtchonoonclllbaaGreatDoor.GetT
namespace Go.Proofs.YtchonoonclllbaaGreatDoor.GetTs
open Go.RowKit Go.Proofs.YtchonoonclllbaaGreatDoor.Mem Go.Proofs.YtchonoonclllbaaGreatDoor.Plain Go.Proofs.YtchonoonclllbaaGreatDoor.Laws
set_option linter.unusedVariables false
theorem one_str (s : ByteArray) : ∀ u ∈ [Value.string s], u.oneCell' = true := by
 intro u hu
 rw [List.mem_singleton] at hu
 rw [hu]
 rfl
theorem Own.nilS (w : World) (lo hi : Nat) : Own w lo hi 9 (.slice none 0 0) (ss []) :=
 ⟨World.ownsRow_nil w lo 9 1, fun g hg => by simp [Value.ownBlock] at hg⟩
def Done (xs : List Int) (at_ : Int) (w : World) (e : Ending) (w' : World) : Prop :=
 ∃ v' : Value, e = .returned (.tuple #[v', .int .i64 (getTexts xs at_).2.1, .bool (getTexts xs at_).2.2]) ∧ Own w' w.heap.size w'.heap.size 9 v' (ss (getTexts xs at_).1) ∧ Below w.heap.size w w'
theorem done_no {xs : List Int} {at_ : Int} {w w' : World} {v' : Value} (hg : getTexts xs at_ = ([], 0, false)) (ho : Own w' w.heap.size w'.heap.size 9 v' (ss [])) (hb : Below w.heap.size w w') :
  Done xs at_ w (.returned (.tuple #[v', .int .i64 0, .bool false])) w' := by
 unfold Done
 rw [hg]
 exact ⟨v', rfl, ho, hb⟩
theorem done_yes {xs : List Int} {at_ q : Int} {l : List ByteArray} {w w' : World} {v' : Value} (hg : getTexts xs at_ = (l, q, true)) (ho : Own w' w.heap.size w'.heap.size 9 v' (ss l)) (hb : Below w.heap.size w w') :
  Done xs at_ w (.returned (.tuple #[v', .int .i64 q, .bool true])) w' := by
 unfold Done
 rw [hg]
 exact ⟨v', rfl, ho, hb⟩
set_option maxRecDepth 1000000 in
set_option maxHeartbeats 2000000 in
theorem texts_impl (w : World) (v : Value) (xs : List Int) (at_ : Int) (h : Sl w v (bs xs)) (hb : Byt xs) (hx : xs.length ≤ 140737488355328) (hlo : -9223372036854775808 ≤ at_) (hhi : at_ ≤ 9223372036854775807) :
  Calls Tryz.prog 189 #[v, .int .i64 at_] w fun e w' => Done xs at_ w e w' := by
 obtain ⟨i0, hi, hz0, hz1, hz2⟩ := info_parts Strs.info9
 have hget := Gets.get_impl w v xs at_ h hb hx hlo hhi
 obtain ⟨n, p, ok, hr⟩ : ∃ n p ok, getNum xs at_ = (n, p, ok) := ⟨_, _, _, rfl⟩
 rw [hr] at hget
 have HR : Hid (getNum xs at_ = (n, p, ok)) := hr
 clear hr
 cases ok with
 | false =>
  have HG : Hid (getTexts xs at_ = ([], 0, false)) := getTexts_no HR.out (.inl rfl)
  go_enter Tryz.func189, Tryz.ntmps189
  go_wp2_with (go_at_call 186; refine hget.mono ?_; rintro e w' ⟨rfl, rfl⟩)
  go_ret3
  exact done_no HG.out (Own.nilS _ _ _) (Below.refl _ _)
 | true =>
  have hbd := getNum_bd HR.out
  obtain ⟨n, rfl⟩ := Int.eq_ofNat_of_zero_le hbd.1
  by_cases hbig : (200 : Int) < (n : Int)
  ·
   have HG : Hid (getTexts xs at_ = ([], 0, false)) := getTexts_no HR.out (.inr hbig)
   go_enter Tryz.func189, Tryz.ntmps189
   go_wp2_with (go_at_call 186; refine hget.mono ?_; rintro e w' ⟨rfl, rfl⟩)
   go_ret3
   exact done_no HG.out (Own.nilS _ _ _) (Below.refl _ _)
  ·
   have hn2 : n ≤ 200 := by omega
   have hlater : ∀ w', Below w.heap.size w w' → Sl w' v (bs xs) := fun w' hb => h.later hb
   go_enter Tryz.func189, Tryz.ntmps189
   go_wp2_with (first | (go_at_call 186; refine hget.mono ?_; rintro e wy ⟨rfl, hwy⟩; have hwy := hwy.symm; subst hwy) | (at_make; refine wpList_make_own _ rfl _ _ 24 rfl w.heap.size 9 i0 (.string ⟨#[]⟩) 1 Tryz.underlying24 hi hz0 hz1 _ _ _ n rfl rfl rfl (by rw [hz2]; omega) (by unfold maxLen; omega) (Nat.le_refl _) ?_))
   intro w1 hown hgrow
   have hbel : Below w.heap.size w w1 := (Below.refl _ _).grown hgrow (Nat.le_refl _) (by simp)
   have hown1 : Own w1 w.heap.size w1.heap.size 9 (.slice (some ⟨w.heap.size, 0, none⟩) 0 n) (ss []) := Own.of hown
   clear hget hgrow hown
   go_wp2
   go_loopw [8, 10, 30] (fun nx lv i wr => ∃ (k : Nat) (acc : List ByteArray) (q : Int), k ≤ n ∧ i = .int .i64 k ∧ nx = .int .i64 q ∧ 0 ≤ q ∧ q ≤ xs.length ∧ acc.length = k ∧ rd xs n p = (rd xs (n - k) q).map (fun r => (acc ++ r.1, r.2)) ∧ Own wr w.heap.size wr.heap.size 9 lv (ss acc) ∧ Below w.heap.size w wr) (fun _ _ i _ => n - (intOf i).toNat)
   case atStart => exact ⟨0, [], p, Nat.zero_le _, rfl, rfl, by omega, by omega, rfl, by simp, hown1, hbel⟩
   case round =>
    obtain ⟨k, acc, q, hk, rfl, rfl, hq0, hq1, hacc, hD0, ho, hbr⟩ := hrel
    have HD : Hid (acc.length = k ∧ rd xs n p = (rd xs (n - k) q).map (fun r => (acc ++ r.1, r.2))) := ⟨hacc, hD0⟩
    have hsz := hbr.size
    clear hD0 hacc hown1 hbel
    by_cases hlt : k < n
    ·
     have htxt := GetT.text_impl wr v xs q (hlater wr hbr) hb hx (by omega) (by omega)
     obtain ⟨s, q2, ok2, hr2⟩ : ∃ s q2 ok2, getText xs q = (s, q2, ok2) := ⟨_, _, _, rfl⟩
     rw [hr2] at htxt
     have HT : Hid (getText xs q = (s, q2, ok2)) := hr2
     clear hr2
     obtain ⟨m, hm⟩ : ∃ m, n - k = m + 1 := ⟨n - k - 1, by omega⟩
     cases ok2 with
     | false =>
      have HG : Hid (getTexts xs at_ = ([], 0, false)) := getTexts_none HR.out hn2 (by rw [HD.out.2, hm, rd_no HT.out]; rfl)
      clear HD hm
      go_wp2_with (go_at_call 188; refine htxt.mono ?_; rintro e wy ⟨rfl, hwy⟩; have hwy := hwy.symm; subst hwy)
      go_ret3
      exact done_no HG.out (Own.nilS _ _ _) hbr
     | true =>
      have hbt := getText_bd HT.out
      have HN : Hid ((acc ++ [s]).length = k + 1 ∧ rd xs n p = (rd xs (n - (k + 1)) q2).map (fun r => ((acc ++ [s]) ++ r.1, r.2))) := by
       refine ⟨by rw [List.length_append, HD.out.1]; rfl, ?_⟩
       rw [HD.out.2, hm, rd_yes HT.out, show n - (k + 1) = m by omega, Option.map_map]
       simp [Function.comp_def]
      have c2 : (ss acc).length + 1 ≤ maxLen := by rw [ss_len, HD.out.1]; unfold maxLen; omega
      have c3 : ((ss acc).length + 1) * 16 ≤ 140737488355328 := by rw [ss_len, HD.out.1]; omega
      have c4 : ∀ o, w.heap.size ≤ (wr.alloc o).heap.size := fun o => by simp; omega
      clear HD hm
      go_wp2_with (first | (go_at_call 188; refine htxt.mono ?_; rintro e wy ⟨rfl, hwy⟩; have hwy := hwy.symm; subst hwy) | (at_builtin; go_must (refine wpl_app _ rfl (.tmp 41) (.tmp 43) 24 rfl 9 i0 (.string ⟨#[]⟩) 16 Tryz.underlying24 hi hz0 hz1 hz2 rfl w.heap.size _ (ss acc) rfl (ho.alloc _) _ rfl [.string s] (Sl.one _ _ _) (one_str _) c2 c3 (c4 _) ?_); intro v3 w3 ho3 hb3 hg3))
      have hb4 : Below w.heap.size w w3 := (hbr.alloc hsz _).trans hb3
      have ho4 : Own w3 w.heap.size w3.heap.size 9 v3 (ss (acc ++ [s])) := by rw [ss_app]; exact ho3
      go_roundw
      case rel => exact ⟨k + 1, acc ++ [s], q2, by omega, by go_num, rfl, by omega, by omega, HN.out.1, HN.out.2, ho4, hb4⟩
      case measure => simp [intOf]; omega
    ·
     have hkn : k = n := by omega
     have HG : Hid (getTexts xs at_ = (acc, q, true)) := getTexts_some HR.out hn2 (by rw [HD.out.2, hkn, Nat.sub_self]; simp [rd])
     clear HD
     go_wp2
     go_ret3
     exact done_yes HG.out ho hbr
end Go.Proofs.YtchonoonclllbaaGreatDoor.GetTs
