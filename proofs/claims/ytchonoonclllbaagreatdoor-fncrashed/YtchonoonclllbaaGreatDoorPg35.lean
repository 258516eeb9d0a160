/- Texts in one: SrG, SrJ. -/
import Derived.Test.YtchonoonclllbaaGreatDoorPg6
import Derived.Test.YtchonoonclllbaaGreatDoorPg21
import Derived.Test.YtchonoonclllbaaGreatDoorPg14
import Derived.Test.YtchonoonclllbaaGreatDoorPg15
import Derived.Deep.DeepCutAuto
namespace Go.Proofs.YtchonoonclllbaaGreatDoor.Sr
open Go.RowKit Go.Proofs.YtchonoonclllbaaGreatDoor.Mem Go.Proofs.YtchonoonclllbaaGreatDoor.Laws Go.Proofs.YtchonoonclllbaaGreatDoor.Bytes Go.Proofs.YtchonoonclllbaaGreatDoor.Sha Go.Proofs.YtchonoonclllbaaGreatDoor.Tr Go.Proofs.YtchonoonclllbaaGreatDoor.He Go.Proofs.YtchonoonclllbaaGreatDoor.Lg
set_option linter.unusedVariables false
set_option linter.unusedSimpArgs false
theorem tot_txs : ∀ l : List ByteArray, Puts.tot l ≤ (Puts.txs l).length := by
 intro l
 induction l with
 | nil => exact Nat.le_refl _
 | cons a r ih =>
  have : (Puts.tx a).length = (Puts.num (a.size : Int)).length + a.size := by unfold Puts.tx; rw [List.length_append, sb_len]
  simp only [Puts.txs, Puts.tot, List.length_append]
  omega
theorem tot_body (h : Hd) (x : List ByteArray) : Puts.tot x ≤ (body h x).length := by
 have := tot_txs x
 unfold body
 simp only [List.length_append]
 omega
theorem open_step {t : List Hd} {xs : List Int} {a n : Nat} {st : Sto} {R : Sto × Nat} {h : Hd} {x : List ByteArray} {p : Int} {ok : Bool} (hlt : a < xs.length) (hg : getC xs (a : Int) = (h, x, p, ok))
  (hf : ∃ f, xs.length - a ≤ f ∧ openF f t xs a st n = R) :
  (¬ (ok = true ∧ (commit1 st t h x).2 = 0) → R = (st, n)) ∧
  (Byt xs → ok = true → ∃ q : Nat, p = (q : Int) ∧ a < q ∧ q ≤ xs.length ∧ (put h x).length = q - a ∧ h.r.size = 32 ∧ (∀ s ∈ x, s.size ≤ 1000000000) ∧ Puts.tot x ≤ 1000000000 ∧ ((commit1 st t h x).2 = 0 → ∃ f, xs.length - q ≤ f ∧ openF f t xs q (commit1 st t h x).1 (n + 1) = R)) := by
 obtain ⟨f, hf1, hf2⟩ := hf
 obtain ⟨f, rfl⟩ : ∃ k, f = k + 1 := ⟨f - 1, by omega⟩
 rw [openF, if_pos hlt, hg] at hf2
 simp only at hf2
 refine ⟨fun hn => ?_, fun hb h1 => ?_⟩
 ·
  rw [if_neg hn] at hf2; exact hf2.symm
 ·
  subst h1
  obtain ⟨q, rfl, hq, hqx, hk, _, _, hbl, _⟩ := put_get hb hg
  have hp := put_pos h x
  refine ⟨q, rfl, by omega, hqx, by omega, (okH_parts hk).2.2, fun s hs => Nat.le_trans (size_body (h := h) hs) hbl, Nat.le_trans (tot_body h x) hbl, fun hc => ⟨f, by omega, ?_⟩⟩
  rw [if_pos ⟨rfl, hc⟩] at hf2
  exact hf2
theorem open_end {t : List Hd} {xs : List Int} {a n : Nat} {st : Sto} {R : Sto × Nat} (hlt : ¬ a < xs.length) (hf : ∃ f, xs.length - a ≤ f ∧ openF f t xs a st n = R) : R = (st, n) := by
 obtain ⟨f, _, hf2⟩ := hf
 cases f with
 | zero => exact hf2.symm
 | succ f => rw [openF, if_neg hlt] at hf2; exact hf2.symm
set_option maxRecDepth 1000000 in
set_option maxHeartbeats 8000000 in
theorem open_any (w : World) (vt vb : Value) (t : List Hd) (xs ys : List Int) (hst : Sh w vt t) (hs : Sl w vb (bs xs)) (hb : Byt xs) (hx : xs.length ≤ 1000000000000) (htl : t.length ≤ 1000000000) (hys : xs.take 60000 = ys) :
  Calls Tryz.prog 115 #[vt, vb] w fun e w' => ∃ v' vb', e = .returned (.tuple #[.agg #[v', .int .i64 (openS t xs).1.h.n, .string (openS t xs).1.h.r, vb', .int .i64 (openS t xs).1.s], .int .i64 ((openS t xs).2 : Int)]) ∧ Own w' w.heap.size w'.heap.size 9 v' (ss (openS t xs).1.l) ∧ Own w' w.heap.size w'.heap.size 5 vb' (bs (openS t xs).1.b) ∧ Below w.heap.size w w' := by
 obtain ⟨R, hR⟩ : ∃ R, openF ys.length t ys 0 new12 0 = R := ⟨_, rfl⟩
 have HF0 : Hid (∃ f, ys.length - 0 ≤ f ∧ openF f t ys 0 new12 0 = R) := ⟨ys.length, by omega, hR⟩
 have eO : openS t xs = (⟨R.1.l, R.1.h, R.1.b, (R.1.b.length : Int)⟩, R.2) := by unfold openS; rw [hys, hR]
 rw [eO]
 have hyl : ys.length ≤ 60000 := by rw [← hys, List.length_take]; omega
 have HBY : Hid (Byt ys) := by show Byt ys; rw [← hys]; exact fun y hy => hb y (List.mem_of_mem_take hy)
 have HS : Hid (Sl w vb (bs xs)) := hs
 have HT : Hid (Sh w vt t) := hst
 have HYS : Hid (xs.take 60000 = ys) := hys
 obtain ⟨ao0, cap0, rfl, hc0⟩ := hs.form
 obtain ⟨ao2, cap2, rfl, hc2⟩ := hst.form
 simp only [bs_len] at *
 clear hs hst hb hR eO hys
 have B0 : Hid (Below w.heap.size w w) := Below.refl _ _
 obtain ⟨W1, HW1, b1, y1, hS1, r_res1⟩ := Ke.l1 w #[.slice none 0 0, .int .i64 0, .string ⟨#[]⟩, .slice none 0 0, .int .i64 0] 30
 have z1 := b1.size
 have B1 := Ke.b B0 b1
 have q0 : ∀ W, _ := fun W => storenew_spec W
 obtain ⟨M, hM⟩ : ∃ M, headOf [] = M := ⟨_, rfl⟩
 simp only [hM] at q0
 have HM : Hid (headOf [] = M) := hM
 clear hM
 go_enter Tryz.func115, Tryz.ntmps115
 go_wp2_with fail
 rw [HW1.out]
 refine (q0 W1).mono ?_
 rintro e W2 ⟨rfl, b2⟩
 have z2 := b2.size
 have B2 := Ke.b B1 b2
 have r_res2 := Ke.r r_res1 b2
 clear r_res1
 obtain ⟨W3, HW3, b3, y3, hS3, r_s3⟩ := Ke.l1 W2 #[.slice none 0 0, .int .i64 M.n, .string M.r, .slice none 0 0, .int .i64 0] 30
 have z3 := b3.size
 have B3 := Ke.b B2 b3
 have r_res3 := Ke.r r_res2 b3
 clear r_res2
 by_cases hbig : 60000 < xs.length
 ·
  have d6 : (60000 : Int) < (xs.length : Int) := by omega
  have hcb : (60000 : Int) ≤ (cap0 : Int) := by omega
  have hyl2 : ys.length = 60000 := by rw [← HYS.out, List.length_take]; omega
  have HV : Hid (Sl w (.slice ao0 60000 cap0) (bs ys)) := by show Sl _ _ _; rw [← HYS.out]; have h9 := Sl.front HS.out 60000 (by rw [bs_len]; omega); have e9 : bs (xs.take 60000) = (bs xs).take 60000 := by { unfold bs; rw [List.map_take] }; rw [e9]; exact h9
  have hLY : (60000 : Int) = (ys.length : Int) := by omega
  have HLY : Hid ((60000 : Int) = (ys.length : Int)) := hLY
  clear hyl2 hLY
  go_wp2_with fail
  rw [HW3.out]
  go_loopw [7, 8] (fun nv iv wr => ∃ (a n : Nat) (st : Sto) (ao : Option Addr) (L cap : Nat) (ao' : Option Addr) (L' cap' : Nat), a ≤ ys.length ∧ n ≤ a ∧ nv = .int .i64 (n : Int) ∧ iv = .int .i64 (a : Int) ∧ Hid (∃ f, ys.length - a ≤ f ∧ openF f t ys a st n = R) ∧ Hid (wr.heap[W2.heap.size]? = some (.cells #[.slice ao L cap, .int .i64 st.h.n, .string st.h.r, .slice ao' L' cap', .int .i64 st.s] 30 (0, 0))) ∧ Hid (wr.heap[w.heap.size]? = some (.cells #[.slice none 0 0, .int .i64 0, .string ⟨#[]⟩, .slice none 0 0, .int .i64 0] 30 (0, 0))) ∧ Hid (Own wr W3.heap.size wr.heap.size 9 (.slice ao L cap) (ss st.l)) ∧ Hid (Own wr W3.heap.size wr.heap.size 5 (.slice ao' L' cap') (bs st.b)) ∧ Hid (Below w.heap.size w wr) ∧ W3.heap.size ≤ wr.heap.size ∧ st.l.length ≤ 200 ∧ st.b.length ≤ a ∧ Hid (∀ s ∈ st.l, s.size ≤ 1000000000)) (fun _ iv _ => ys.length - (intOf iv).toNat)
  case atStart =>
   refine ⟨0, 0, new12, none, 0, 0, none, 0, 0, Nat.zero_le _, Nat.le_refl _, rfl, rfl, HF0, ?_, r_res3, ownNil _ _ _ _, ownNil _ _ _ _, B3, Nat.le_refl _, Nat.zero_le _, Nat.le_refl _, fun s hs => by cases hs⟩
   show _ = _
   rw [r_s3.out, ← HM.out]
   rfl
  case round =>
   obtain ⟨a, n, st, ao_v, L_v, cap_v, ao_p, L_p, cap_p, ha, hna, rfl, rfl, HF, r_s4, r_res4, o_v4, o_p4, B4, z4, hl2, hb2, HZ⟩ := hrel
   obtain ⟨W4, hW4⟩ : ∃ X, X = wr := ⟨_, rfl⟩
   subst hW4
   clear HF0 r_s3 r_res3
   have hLp : L_p ≤ st.b.length ∧ st.b.length ≤ L_p := by obtain ⟨a9, L9, c9, he, h1, h2⟩ := Mem.Own.form o_p4.out; injection he with _ he2 _; rw [bs_len] at h1 h2; omega
   have c_s4 := Ke.c r_s4
   have hly := HLY.out
   have hlt2 : ((a : Int) < (60000 : Int)) ↔ a < ys.length := by omega
   clear hly
   by_cases hlt : a < ys.length
   ·
    have hl3 := hlt2.2 hlt
    have q2 := get_spec W4 _ ys (a : Int) (HV.out.later B4.out) HBY.out (by omega) (by omega) (by omega)
    obtain ⟨h, x, p, ok, hg⟩ : ∃ h x p ok, getC ys (a : Int) = (h, x, p, ok) := ⟨_, _, _, _, rfl⟩
    unfold GotC at q2
    rw [hg] at q2
    simp only at q2
    obtain ⟨S1, S3⟩ := open_step hlt hg HF.out
    have H1 : Hid _ := S1
    have H3 : Hid _ := S3
    have hx2 : x.length ≤ 200 := by
     have h9 := getC_len ys (a : Int)
     rw [hg] at h9
     exact h9
    clear S1 S3 HF hg hlt2
    go_wp2_with fail
    refine (q2).mono ?_
    rintro e W5 ⟨v_t, rfl, o_t5, b5⟩
    obtain ⟨ao_t, L_t, cap_t, rfl, hL_t, hM_t⟩ := o_t5.form
    have o_t5 : Hid (Own W5 W4.heap.size W5.heap.size 9 (.slice ao_t L_t cap_t) (ss x)) := o_t5
    clear hL_t hM_t
    have z5 := b5.size
    have B5 := Ke.b B4 b5
    have r_s5 := Ke.r r_s4 b5
    have r_res5 := Ke.r r_res4 b5
    have o_v5 := Ke.o o_v4 b5
    have o_p5 := Ke.o o_p4 b5
    have c_s5 := Ke.c r_s5
    clear r_s4 c_s4 r_res4 o_v4 o_p4
    clear q2
    have a_s5 := Ke.a r_s5
    obtain ⟨W6, HW6, b6, y6, hS6, r_h6⟩ := Ke.l1 W5 #[.int .i64 h.n, .string h.r] 26
    have z6 := b6.size
    have B6 := Ke.b B5 b6
    have r_s6 := Ke.r r_s5 b6
    have r_res6 := Ke.r r_res5 b6
    have o_v6 := Ke.o o_v5 b6
    have o_p6 := Ke.o o_p5 b6
    have o_t6 := Ke.o o_t5 b6
    clear r_s5 c_s5 r_res5 o_v5 o_p5 o_t5
    cases ok
    ·
     have HN : Hid (R = (st, n)) := H1.out (by simp)
     have HLP : Hid ((L_p : Int) = (st.b.length : Int)) := by show _ = _; omega
     go_wp2_with ((try rw [HW6.out]); refine wpl_oneG rfl 3 _ _ rfl (W2.heap.size) 4 (.int .i64 (L_p : Int)) rfl rfl [.slice ao_v L_v cap_v, .int .i64 st.h.n, .string st.h.r, .slice ao_p L_p cap_p, .int .i64 st.s] 30 r_s6.out (Nat.le_of_ble_eq_true rfl) (by kernel_rfl) rfl [.slice ao_v L_v cap_v, .int .i64 st.h.n, .string st.h.r, .slice ao_p L_p cap_p, .int .i64 (L_p : Int)] rfl ?_)
     intro W7 r_s7 g7
     clear a_s5
     have r_s7 : Hid (W7.heap[W2.heap.size]? = some (.cells #[.slice ao_v L_v cap_v, .int .i64 st.h.n, .string st.h.r, .slice ao_p L_p cap_p, .int .i64 (L_p : Int)] 30 (0, 0))) := r_s7
     have z7 := g7.size
     have B7 : Hid (Below w.heap.size w W7) := belowGro B6.out g7 B6.out.size (fun k9 h9 => by injection h9 with h9; have := B6.out.size; omega)
     have r_res7 := Ke.s r_res6 g7
     have o_v7 := Ke.t o_v6 r_s6 g7
     have o_p7 := Ke.t o_p6 r_s6 g7
     have c_s7 := Ke.c r_s7
     clear r_res6 r_h6 o_v6 o_p6 o_t6
     clear r_s6
     clear g7
     go_wp2_with (first | (refine wpList_load_row rfl 30 _ rfl (W2.heap.size) rfl 30 (sc (.slice ao_v L_v cap_v) st.h (.slice ao_p L_p cap_p) (L_p : Int)) (0, 0) _ r_s7.out Tryz.underlying30 rfl (sizeS _ _ _ _) ?_) | (refine wpList_store_row rfl 30 _ _ rfl (w.heap.size) (sc (.slice ao_v L_v cap_v) st.h (.slice ao_p L_p cap_p) (L_p : Int)) rfl rfl 30 _ r_res7.out (sizeS _ _ _ _) rfl (oneS _ _ rfl rfl) ?_))
     refine bodyPost_ret (res_row_tmp rfl _ _ (w.heap.size) 30 (sc (.slice ao_v L_v cap_v) st.h (.slice ao_p L_p cap_p) (L_p : Int)) (0, 0) _ rfl (setRow_heap _ _ _ _ _ (0, 0) r_res7.out) Tryz.underlying30 rfl (sizeS _ _ _ _)) rfl ⟨.slice ao_v L_v cap_v, .slice ao_p L_p cap_p, by rw [HN.out]; simp only [sc]; rw [← HLP.out]; rfl, ?_, ?_, below_setRow B7.out (by omega) _⟩
     ·
      rw [HN.out]
      exact (Own.setRow o_v7.out _ (by omega)).mono (by omega) (by rw [size_setRow]; omega)
     ·
      rw [HN.out]
      exact (Own.setRow o_p7.out _ (by omega)).mono (by omega) (by rw [size_setRow]; omega)
    ·
     obtain ⟨q, hq0, hq1, hq2, hq3, hq4, hq5, hq6, hq7⟩ := H3.out HBY.out (by first | exact rfl | trivial)
     subst hq0
     have HQ5 : Hid (∀ s ∈ x, s.size ≤ 1000000000) := hq5
     have HQ7 : Hid _ := hq7
     clear hq5 hq7
     have q4 : ∀ W v1 v2 v3 v4, Sl W v1 (ss st.l) → Sl W v2 (bs st.b) → Sh W v3 t → Sl W v4 (ss x) → _ := fun W v1 v2 v3 v4 h1 h2 h3 h4 => commit1_spec W v1 v2 v3 v4 st t h x h1 h2 h3 h4 (by omega) (by omega) htl (by omega) (fun s hs => by have := HZ.out s hs; omega) (fun s hs => by have := HQ5.out s hs; omega) (by omega) (by omega)
     obtain ⟨C, hC⟩ : ∃ C, commit1 st t h x = C := ⟨_, rfl⟩
     simp only [hC] at q4
     have HC : Hid (commit1 st t h x = C) := hC
     clear hC
     obtain ⟨st2, code⟩ := C
     simp only at q4
     go_wp2_with fail
     rw [HW6.out]
     clear a_s5
     refine (q4 W6 _ _ _ _ o_v6.out.sl o_p6.out.sl (HT.out.later B6.out) o_t6.out.sl).mono ?_
     rintro e W7 ⟨v_n, v_y, rfl, o_n7, o_y7, b7⟩
     obtain ⟨ao_n, L_n, cap_n, rfl, hL_n, hM_n⟩ := o_n7.form
     have o_n7 : Hid (Own W7 W6.heap.size W7.heap.size 9 (.slice ao_n L_n cap_n) (ss st2.l)) := o_n7
     clear hL_n hM_n
     have z7 := b7.size
     have B7 := Ke.b B6 b7
     have r_s7 := Ke.r r_s6 b7
     have r_res7 := Ke.r r_res6 b7
     have o_v7 := Ke.o o_v6 b7
     have o_p7 := Ke.o o_p6 b7
     have c_s7 := Ke.c r_s7
     clear r_s6 r_res6 r_h6 o_v6 o_p6 o_t6
     obtain ⟨ao_y, L_y, cap_y, rfl, _, _⟩ := o_y7.form
     have o_y7 : Hid (Own W7 W6.heap.size W7.heap.size 5 (.slice ao_y L_y cap_y) (bs st2.b)) := o_y7
     clear q4
     have a_s7 := Ke.a r_s7
     obtain ⟨W8, HW8, b8, y8, hS8, r_x8⟩ := Ke.l1 W7 #[.slice ao_n L_n cap_n, .int .i64 st2.h.n, .string st2.h.r, .slice ao_y L_y cap_y, .int .i64 st2.s] 30
     have z8 := b8.size
     have B8 := Ke.b B7 b8
     have r_s8 := Ke.r r_s7 b8
     have r_res8 := Ke.r r_res7 b8
     have o_v8 := Ke.o o_v7 b8
     have o_p8 := Ke.o o_p7 b8
     have o_n8 := Ke.o o_n7 b8
     have o_y8 := Ke.o o_y7 b8
     clear r_s7 c_s7 r_res7 o_v7 o_p7 o_n7 o_y7
     by_cases hcode : code = 0
     ·
      subst hcode
      obtain ⟨f9, hf9, hF9⟩ := HQ7.out (by rw [HC.out])
      rw [HC.out] at hF9
      have HQ4 : Hid (∃ f, ys.length - q ≤ f ∧ openF f t ys q st2 (n + 1) = R) := ⟨f9, hf9, hF9⟩
      clear hF9 hf9
      obtain ⟨c1, c2, c3, c4, c5, c6, c7⟩ := commit1_good (st := st) (t := t) (h := h) (x := x) (by rw [HC.out])
      rw [HC.out] at c7
      simp only at c7
      have hl5 : st2.l.length ≤ 200 := by rw [c7]; exact c5
      have hb5 : st2.b.length ≤ q := by rw [c7]; simp only [List.length_append]; omega
      have HZ5 : Hid (∀ s ∈ st2.l, s.size ≤ 1000000000) := by show ∀ s ∈ st2.l, s.size ≤ 1000000000; rw [c7]; exact size_app HZ.out HQ5.out
      clear c1 c2 c3 c4 c5 c6 c7
      go_wp2_with ((try rw [HW8.out]); refine wpl_partG rfl 30 _ _ rfl (W2.heap.size) 0 (sc (.slice ao_n L_n cap_n) st2.h (.slice ao_y L_y cap_y) st2.s) rfl rfl [.slice ao_v L_v cap_v, .int .i64 st.h.n, .string st.h.r, .slice ao_p L_p cap_p, .int .i64 st.s] 30 r_s8.out (Nat.le_of_ble_eq_true rfl) (sizeS _ _ _ _) (oneS _ _ rfl rfl) [.slice ao_n L_n cap_n, .int .i64 st2.h.n, .string st2.h.r, .slice ao_y L_y cap_y, .int .i64 st2.s] rfl ?_)
      intro W9 r_s9 g9
      clear a_s7
      have r_s9 : Hid (W9.heap[W2.heap.size]? = some (.cells #[.slice ao_n L_n cap_n, .int .i64 st2.h.n, .string st2.h.r, .slice ao_y L_y cap_y, .int .i64 st2.s] 30 (0, 0))) := r_s9
      have z9 := g9.size
      have B9 : Hid (Below w.heap.size w W9) := belowGro B8.out g9 B8.out.size (fun k9 h9 => by injection h9 with h9; have := B8.out.size; omega)
      have r_res9 := Ke.s r_res8 g9
      have o_v9 := Ke.t o_v8 r_s8 g9
      have o_p9 := Ke.t o_p8 r_s8 g9
      have o_n9 := Ke.t o_n8 r_s8 g9
      have o_y9 := Ke.t o_y8 r_s8 g9
      clear r_res8 r_x8 o_v8 o_p8 o_n8 o_y8
      clear r_s8
      clear g9
      have wn : IntKind.i64.wrap ((n : Int) + 1) = ((n + 1 : Nat) : Int) := by rw [IntKind.wrap_i64]; omega
      go_wp2
      go_roundw
      case rel => exact ⟨q, n + 1, st2, ao_n, L_n, cap_n, ao_y, L_y, cap_y, hq2, by omega, by go_num, rfl, HQ4, r_s9, r_res9, Own.mono o_n9.out (by omega) (by omega), Own.mono o_y9.out (by omega) (by omega), B9, by omega, hl5, hb5, HZ5⟩
      case measure => simp [intOf]; omega
     ·
      have cn : (code == 0) = false := by rw [beq_eq_false_iff_ne]; exact hcode
      have cm : (code != 0) = true := by rw [bne, cn]; rfl
      have HN : Hid (R = (st, n)) := H1.out (fun h9 => hcode (by have := h9.2; rw [HC.out] at this; exact this))
      have HLP : Hid ((L_p : Int) = (st.b.length : Int)) := by show _ = _; omega
      go_wp2_with ((try rw [HW8.out]); refine wpl_oneG rfl 3 _ _ rfl (W2.heap.size) 4 (.int .i64 (L_p : Int)) rfl rfl [.slice ao_v L_v cap_v, .int .i64 st.h.n, .string st.h.r, .slice ao_p L_p cap_p, .int .i64 st.s] 30 r_s8.out (Nat.le_of_ble_eq_true rfl) (by kernel_rfl) rfl [.slice ao_v L_v cap_v, .int .i64 st.h.n, .string st.h.r, .slice ao_p L_p cap_p, .int .i64 (L_p : Int)] rfl ?_)
      intro W9 r_s9 g9
      clear a_s7
      have r_s9 : Hid (W9.heap[W2.heap.size]? = some (.cells #[.slice ao_v L_v cap_v, .int .i64 st.h.n, .string st.h.r, .slice ao_p L_p cap_p, .int .i64 (L_p : Int)] 30 (0, 0))) := r_s9
      have z9 := g9.size
      have B9 : Hid (Below w.heap.size w W9) := belowGro B8.out g9 B8.out.size (fun k9 h9 => by injection h9 with h9; have := B8.out.size; omega)
      have r_res9 := Ke.s r_res8 g9
      have o_v9 := Ke.t o_v8 r_s8 g9
      have o_p9 := Ke.t o_p8 r_s8 g9
      have o_n9 := Ke.t o_n8 r_s8 g9
      have o_y9 := Ke.t o_y8 r_s8 g9
      clear r_res8 r_x8 o_v8 o_p8 o_n8 o_y8
      clear r_s8
      clear g9
      go_wp2_with (first | (refine wpList_load_row rfl 30 _ rfl (W2.heap.size) rfl 30 (sc (.slice ao_v L_v cap_v) st.h (.slice ao_p L_p cap_p) (L_p : Int)) (0, 0) _ r_s9.out Tryz.underlying30 rfl (sizeS _ _ _ _) ?_) | (refine wpList_store_row rfl 30 _ _ rfl (w.heap.size) (sc (.slice ao_v L_v cap_v) st.h (.slice ao_p L_p cap_p) (L_p : Int)) rfl rfl 30 _ r_res9.out (sizeS _ _ _ _) rfl (oneS _ _ rfl rfl) ?_))
      refine bodyPost_ret (res_row_tmp rfl _ _ (w.heap.size) 30 (sc (.slice ao_v L_v cap_v) st.h (.slice ao_p L_p cap_p) (L_p : Int)) (0, 0) _ rfl (setRow_heap _ _ _ _ _ (0, 0) r_res9.out) Tryz.underlying30 rfl (sizeS _ _ _ _)) rfl ⟨.slice ao_v L_v cap_v, .slice ao_p L_p cap_p, by rw [HN.out]; simp only [sc]; rw [← HLP.out]; rfl, ?_, ?_, below_setRow B9.out (by omega) _⟩
      ·
       rw [HN.out]
       exact (Own.setRow o_v9.out _ (by omega)).mono (by omega) (by rw [size_setRow]; omega)
      ·
       rw [HN.out]
       exact (Own.setRow o_p9.out _ (by omega)).mono (by omega) (by rw [size_setRow]; omega)
   ·
    have hl3 : ¬ ((a : Int) < (60000 : Int)) := fun h9 => hlt (hlt2.1 h9)
    clear hlt2
    have HN : Hid (R = (st, n)) := open_end hlt HF.out
    have HLP : Hid ((L_p : Int) = (st.b.length : Int)) := by show _ = _; omega
    go_wp2_with (refine wpl_oneG rfl 3 _ _ rfl (W2.heap.size) 4 (.int .i64 (L_p : Int)) rfl rfl [.slice ao_v L_v cap_v, .int .i64 st.h.n, .string st.h.r, .slice ao_p L_p cap_p, .int .i64 st.s] 30 r_s4.out (Nat.le_of_ble_eq_true rfl) (by kernel_rfl) rfl [.slice ao_v L_v cap_v, .int .i64 st.h.n, .string st.h.r, .slice ao_p L_p cap_p, .int .i64 (L_p : Int)] rfl ?_)
    intro W5 r_s5 g5
    have r_s5 := Ke.h r_s5
    have z5 := g5.size
    have B5 : Hid (Below w.heap.size w W5) := belowGro B4.out g5 B4.out.size (fun k9 h9 => by injection h9 with h9; have := B4.out.size; omega)
    have r_res5 := Ke.s r_res4 g5
    have o_v5 := Ke.t o_v4 r_s4 g5
    have o_p5 := Ke.t o_p4 r_s4 g5
    have c_s5 := Ke.c r_s5
    clear r_res4 o_v4 o_p4
    clear r_s4 c_s4
    clear g5
    go_wp2_with (first | (refine wpList_load_row rfl 30 _ rfl (W2.heap.size) rfl 30 (sc (.slice ao_v L_v cap_v) st.h (.slice ao_p L_p cap_p) (L_p : Int)) (0, 0) _ r_s5.out Tryz.underlying30 rfl (sizeS _ _ _ _) ?_) | (refine wpList_store_row rfl 30 _ _ rfl (w.heap.size) (sc (.slice ao_v L_v cap_v) st.h (.slice ao_p L_p cap_p) (L_p : Int)) rfl rfl 30 _ r_res5.out (sizeS _ _ _ _) rfl (oneS _ _ rfl rfl) ?_))
    refine bodyPost_ret (res_row_tmp rfl _ _ (w.heap.size) 30 (sc (.slice ao_v L_v cap_v) st.h (.slice ao_p L_p cap_p) (L_p : Int)) (0, 0) _ rfl (setRow_heap _ _ _ _ _ (0, 0) r_res5.out) Tryz.underlying30 rfl (sizeS _ _ _ _)) rfl ⟨.slice ao_v L_v cap_v, .slice ao_p L_p cap_p, by rw [HN.out]; simp only [sc]; rw [← HLP.out]; rfl, ?_, ?_, below_setRow B5.out (by omega) _⟩
    ·
     rw [HN.out]
     exact (Own.setRow o_v5.out _ (by omega)).mono (by omega) (by rw [size_setRow]; omega)
    ·
     rw [HN.out]
     exact (Own.setRow o_p5.out _ (by omega)).mono (by omega) (by rw [size_setRow]; omega)
 ·
  have d6 : ¬ (60000 : Int) < (xs.length : Int) := by omega
  have eY : xs = ys := by rw [← HYS.out, List.take_of_length_le (by omega)]
  have HV : Hid (Sl w (.slice ao0 xs.length cap0) (bs ys)) := by show Sl _ _ _; rw [← eY]; exact HS.out
  have hLY : (xs.length : Int) = (ys.length : Int) := by rw [eY]
  have HLY : Hid ((xs.length : Int) = (ys.length : Int)) := hLY
  clear eY hLY
  go_wp2_with fail
  rw [HW3.out]
  go_loopw [7, 8] (fun nv iv wr => ∃ (a n : Nat) (st : Sto) (ao : Option Addr) (L cap : Nat) (ao' : Option Addr) (L' cap' : Nat), a ≤ ys.length ∧ n ≤ a ∧ nv = .int .i64 (n : Int) ∧ iv = .int .i64 (a : Int) ∧ Hid (∃ f, ys.length - a ≤ f ∧ openF f t ys a st n = R) ∧ Hid (wr.heap[W2.heap.size]? = some (.cells #[.slice ao L cap, .int .i64 st.h.n, .string st.h.r, .slice ao' L' cap', .int .i64 st.s] 30 (0, 0))) ∧ Hid (wr.heap[w.heap.size]? = some (.cells #[.slice none 0 0, .int .i64 0, .string ⟨#[]⟩, .slice none 0 0, .int .i64 0] 30 (0, 0))) ∧ Hid (Own wr W3.heap.size wr.heap.size 9 (.slice ao L cap) (ss st.l)) ∧ Hid (Own wr W3.heap.size wr.heap.size 5 (.slice ao' L' cap') (bs st.b)) ∧ Hid (Below w.heap.size w wr) ∧ W3.heap.size ≤ wr.heap.size ∧ st.l.length ≤ 200 ∧ st.b.length ≤ a ∧ Hid (∀ s ∈ st.l, s.size ≤ 1000000000)) (fun _ iv _ => ys.length - (intOf iv).toNat)
  case atStart =>
   refine ⟨0, 0, new12, none, 0, 0, none, 0, 0, Nat.zero_le _, Nat.le_refl _, rfl, rfl, HF0, ?_, r_res3, ownNil _ _ _ _, ownNil _ _ _ _, B3, Nat.le_refl _, Nat.zero_le _, Nat.le_refl _, fun s hs => by cases hs⟩
   show _ = _
   rw [r_s3.out, ← HM.out]
   rfl
  case round =>
   obtain ⟨a, n, st, ao_v, L_v, cap_v, ao_p, L_p, cap_p, ha, hna, rfl, rfl, HF, r_s4, r_res4, o_v4, o_p4, B4, z4, hl2, hb2, HZ⟩ := hrel
   obtain ⟨W4, hW4⟩ : ∃ X, X = wr := ⟨_, rfl⟩
   subst hW4
   clear HF0 r_s3 r_res3
   have hLp : L_p ≤ st.b.length ∧ st.b.length ≤ L_p := by obtain ⟨a9, L9, c9, he, h1, h2⟩ := Mem.Own.form o_p4.out; injection he with _ he2 _; rw [bs_len] at h1 h2; omega
   have c_s4 := Ke.c r_s4
   have hly := HLY.out
   have hlt2 : ((a : Int) < ((xs.length : Int) : Int)) ↔ a < ys.length := by omega
   clear hly
   by_cases hlt : a < ys.length
   ·
    have hl3 := hlt2.2 hlt
    have q2 := get_spec W4 _ ys (a : Int) (HV.out.later B4.out) HBY.out (by omega) (by omega) (by omega)
    obtain ⟨h, x, p, ok, hg⟩ : ∃ h x p ok, getC ys (a : Int) = (h, x, p, ok) := ⟨_, _, _, _, rfl⟩
    unfold GotC at q2
    rw [hg] at q2
    simp only at q2
    obtain ⟨S1, S3⟩ := open_step hlt hg HF.out
    have H1 : Hid _ := S1
    have H3 : Hid _ := S3
    have hx2 : x.length ≤ 200 := by
     have h9 := getC_len ys (a : Int)
     rw [hg] at h9
     exact h9
    clear S1 S3 HF hg hlt2
    go_wp2_with fail
    refine (q2).mono ?_
    rintro e W5 ⟨v_t, rfl, o_t5, b5⟩
    obtain ⟨ao_t, L_t, cap_t, rfl, hL_t, hM_t⟩ := o_t5.form
    have o_t5 : Hid (Own W5 W4.heap.size W5.heap.size 9 (.slice ao_t L_t cap_t) (ss x)) := o_t5
    clear hL_t hM_t
    have z5 := b5.size
    have B5 := Ke.b B4 b5
    have r_s5 := Ke.r r_s4 b5
    have r_res5 := Ke.r r_res4 b5
    have o_v5 := Ke.o o_v4 b5
    have o_p5 := Ke.o o_p4 b5
    have c_s5 := Ke.c r_s5
    clear r_s4 c_s4 r_res4 o_v4 o_p4
    clear q2
    have a_s5 := Ke.a r_s5
    obtain ⟨W6, HW6, b6, y6, hS6, r_h6⟩ := Ke.l1 W5 #[.int .i64 h.n, .string h.r] 26
    have z6 := b6.size
    have B6 := Ke.b B5 b6
    have r_s6 := Ke.r r_s5 b6
    have r_res6 := Ke.r r_res5 b6
    have o_v6 := Ke.o o_v5 b6
    have o_p6 := Ke.o o_p5 b6
    have o_t6 := Ke.o o_t5 b6
    clear r_s5 c_s5 r_res5 o_v5 o_p5 o_t5
    cases ok
    ·
     have HN : Hid (R = (st, n)) := H1.out (by simp)
     have HLP : Hid ((L_p : Int) = (st.b.length : Int)) := by show _ = _; omega
     go_wp2_with ((try rw [HW6.out]); refine wpl_oneG rfl 3 _ _ rfl (W2.heap.size) 4 (.int .i64 (L_p : Int)) rfl rfl [.slice ao_v L_v cap_v, .int .i64 st.h.n, .string st.h.r, .slice ao_p L_p cap_p, .int .i64 st.s] 30 r_s6.out (Nat.le_of_ble_eq_true rfl) (by kernel_rfl) rfl [.slice ao_v L_v cap_v, .int .i64 st.h.n, .string st.h.r, .slice ao_p L_p cap_p, .int .i64 (L_p : Int)] rfl ?_)
     intro W7 r_s7 g7
     clear a_s5
     have r_s7 : Hid (W7.heap[W2.heap.size]? = some (.cells #[.slice ao_v L_v cap_v, .int .i64 st.h.n, .string st.h.r, .slice ao_p L_p cap_p, .int .i64 (L_p : Int)] 30 (0, 0))) := r_s7
     have z7 := g7.size
     have B7 : Hid (Below w.heap.size w W7) := belowGro B6.out g7 B6.out.size (fun k9 h9 => by injection h9 with h9; have := B6.out.size; omega)
     have r_res7 := Ke.s r_res6 g7
     have o_v7 := Ke.t o_v6 r_s6 g7
     have o_p7 := Ke.t o_p6 r_s6 g7
     have c_s7 := Ke.c r_s7
     clear r_res6 r_h6 o_v6 o_p6 o_t6
     clear r_s6
     clear g7
     go_wp2_with (first | (refine wpList_load_row rfl 30 _ rfl (W2.heap.size) rfl 30 (sc (.slice ao_v L_v cap_v) st.h (.slice ao_p L_p cap_p) (L_p : Int)) (0, 0) _ r_s7.out Tryz.underlying30 rfl (sizeS _ _ _ _) ?_) | (refine wpList_store_row rfl 30 _ _ rfl (w.heap.size) (sc (.slice ao_v L_v cap_v) st.h (.slice ao_p L_p cap_p) (L_p : Int)) rfl rfl 30 _ r_res7.out (sizeS _ _ _ _) rfl (oneS _ _ rfl rfl) ?_))
     refine bodyPost_ret (res_row_tmp rfl _ _ (w.heap.size) 30 (sc (.slice ao_v L_v cap_v) st.h (.slice ao_p L_p cap_p) (L_p : Int)) (0, 0) _ rfl (setRow_heap _ _ _ _ _ (0, 0) r_res7.out) Tryz.underlying30 rfl (sizeS _ _ _ _)) rfl ⟨.slice ao_v L_v cap_v, .slice ao_p L_p cap_p, by rw [HN.out]; simp only [sc]; rw [← HLP.out]; rfl, ?_, ?_, below_setRow B7.out (by omega) _⟩
     ·
      rw [HN.out]
      exact (Own.setRow o_v7.out _ (by omega)).mono (by omega) (by rw [size_setRow]; omega)
     ·
      rw [HN.out]
      exact (Own.setRow o_p7.out _ (by omega)).mono (by omega) (by rw [size_setRow]; omega)
    ·
     obtain ⟨q, hq0, hq1, hq2, hq3, hq4, hq5, hq6, hq7⟩ := H3.out HBY.out (by first | exact rfl | trivial)
     subst hq0
     have HQ5 : Hid (∀ s ∈ x, s.size ≤ 1000000000) := hq5
     have HQ7 : Hid _ := hq7
     clear hq5 hq7
     have q4 : ∀ W v1 v2 v3 v4, Sl W v1 (ss st.l) → Sl W v2 (bs st.b) → Sh W v3 t → Sl W v4 (ss x) → _ := fun W v1 v2 v3 v4 h1 h2 h3 h4 => commit1_spec W v1 v2 v3 v4 st t h x h1 h2 h3 h4 (by omega) (by omega) htl (by omega) (fun s hs => by have := HZ.out s hs; omega) (fun s hs => by have := HQ5.out s hs; omega) (by omega) (by omega)
     obtain ⟨C, hC⟩ : ∃ C, commit1 st t h x = C := ⟨_, rfl⟩
     simp only [hC] at q4
     have HC : Hid (commit1 st t h x = C) := hC
     clear hC
     obtain ⟨st2, code⟩ := C
     simp only at q4
     go_wp2_with fail
     rw [HW6.out]
     clear a_s5
     refine (q4 W6 _ _ _ _ o_v6.out.sl o_p6.out.sl (HT.out.later B6.out) o_t6.out.sl).mono ?_
     rintro e W7 ⟨v_n, v_y, rfl, o_n7, o_y7, b7⟩
     obtain ⟨ao_n, L_n, cap_n, rfl, hL_n, hM_n⟩ := o_n7.form
     have o_n7 : Hid (Own W7 W6.heap.size W7.heap.size 9 (.slice ao_n L_n cap_n) (ss st2.l)) := o_n7
     clear hL_n hM_n
     have z7 := b7.size
     have B7 := Ke.b B6 b7
     have r_s7 := Ke.r r_s6 b7
     have r_res7 := Ke.r r_res6 b7
     have o_v7 := Ke.o o_v6 b7
     have o_p7 := Ke.o o_p6 b7
     have c_s7 := Ke.c r_s7
     clear r_s6 r_res6 r_h6 o_v6 o_p6 o_t6
     obtain ⟨ao_y, L_y, cap_y, rfl, _, _⟩ := o_y7.form
     have o_y7 : Hid (Own W7 W6.heap.size W7.heap.size 5 (.slice ao_y L_y cap_y) (bs st2.b)) := o_y7
     clear q4
     have a_s7 := Ke.a r_s7
     obtain ⟨W8, HW8, b8, y8, hS8, r_x8⟩ := Ke.l1 W7 #[.slice ao_n L_n cap_n, .int .i64 st2.h.n, .string st2.h.r, .slice ao_y L_y cap_y, .int .i64 st2.s] 30
     have z8 := b8.size
     have B8 := Ke.b B7 b8
     have r_s8 := Ke.r r_s7 b8
     have r_res8 := Ke.r r_res7 b8
     have o_v8 := Ke.o o_v7 b8
     have o_p8 := Ke.o o_p7 b8
     have o_n8 := Ke.o o_n7 b8
     have o_y8 := Ke.o o_y7 b8
     clear r_s7 c_s7 r_res7 o_v7 o_p7 o_n7 o_y7
     by_cases hcode : code = 0
     ·
      subst hcode
      obtain ⟨f9, hf9, hF9⟩ := HQ7.out (by rw [HC.out])
      rw [HC.out] at hF9
      have HQ4 : Hid (∃ f, ys.length - q ≤ f ∧ openF f t ys q st2 (n + 1) = R) := ⟨f9, hf9, hF9⟩
      clear hF9 hf9
      obtain ⟨c1, c2, c3, c4, c5, c6, c7⟩ := commit1_good (st := st) (t := t) (h := h) (x := x) (by rw [HC.out])
      rw [HC.out] at c7
      simp only at c7
      have hl5 : st2.l.length ≤ 200 := by rw [c7]; exact c5
      have hb5 : st2.b.length ≤ q := by rw [c7]; simp only [List.length_append]; omega
      have HZ5 : Hid (∀ s ∈ st2.l, s.size ≤ 1000000000) := by show ∀ s ∈ st2.l, s.size ≤ 1000000000; rw [c7]; exact size_app HZ.out HQ5.out
      clear c1 c2 c3 c4 c5 c6 c7
      go_wp2_with ((try rw [HW8.out]); refine wpl_partG rfl 30 _ _ rfl (W2.heap.size) 0 (sc (.slice ao_n L_n cap_n) st2.h (.slice ao_y L_y cap_y) st2.s) rfl rfl [.slice ao_v L_v cap_v, .int .i64 st.h.n, .string st.h.r, .slice ao_p L_p cap_p, .int .i64 st.s] 30 r_s8.out (Nat.le_of_ble_eq_true rfl) (sizeS _ _ _ _) (oneS _ _ rfl rfl) [.slice ao_n L_n cap_n, .int .i64 st2.h.n, .string st2.h.r, .slice ao_y L_y cap_y, .int .i64 st2.s] rfl ?_)
      intro W9 r_s9 g9
      clear a_s7
      have r_s9 : Hid (W9.heap[W2.heap.size]? = some (.cells #[.slice ao_n L_n cap_n, .int .i64 st2.h.n, .string st2.h.r, .slice ao_y L_y cap_y, .int .i64 st2.s] 30 (0, 0))) := r_s9
      have z9 := g9.size
      have B9 : Hid (Below w.heap.size w W9) := belowGro B8.out g9 B8.out.size (fun k9 h9 => by injection h9 with h9; have := B8.out.size; omega)
      have r_res9 := Ke.s r_res8 g9
      have o_v9 := Ke.t o_v8 r_s8 g9
      have o_p9 := Ke.t o_p8 r_s8 g9
      have o_n9 := Ke.t o_n8 r_s8 g9
      have o_y9 := Ke.t o_y8 r_s8 g9
      clear r_res8 r_x8 o_v8 o_p8 o_n8 o_y8
      clear r_s8
      clear g9
      have wn : IntKind.i64.wrap ((n : Int) + 1) = ((n + 1 : Nat) : Int) := by rw [IntKind.wrap_i64]; omega
      go_wp2
      go_roundw
      case rel => exact ⟨q, n + 1, st2, ao_n, L_n, cap_n, ao_y, L_y, cap_y, hq2, by omega, by go_num, rfl, HQ4, r_s9, r_res9, Own.mono o_n9.out (by omega) (by omega), Own.mono o_y9.out (by omega) (by omega), B9, by omega, hl5, hb5, HZ5⟩
      case measure => simp [intOf]; omega
     ·
      have cn : (code == 0) = false := by rw [beq_eq_false_iff_ne]; exact hcode
      have cm : (code != 0) = true := by rw [bne, cn]; rfl
      have HN : Hid (R = (st, n)) := H1.out (fun h9 => hcode (by have := h9.2; rw [HC.out] at this; exact this))
      have HLP : Hid ((L_p : Int) = (st.b.length : Int)) := by show _ = _; omega
      go_wp2_with ((try rw [HW8.out]); refine wpl_oneG rfl 3 _ _ rfl (W2.heap.size) 4 (.int .i64 (L_p : Int)) rfl rfl [.slice ao_v L_v cap_v, .int .i64 st.h.n, .string st.h.r, .slice ao_p L_p cap_p, .int .i64 st.s] 30 r_s8.out (Nat.le_of_ble_eq_true rfl) (by kernel_rfl) rfl [.slice ao_v L_v cap_v, .int .i64 st.h.n, .string st.h.r, .slice ao_p L_p cap_p, .int .i64 (L_p : Int)] rfl ?_)
      intro W9 r_s9 g9
      clear a_s7
      have r_s9 : Hid (W9.heap[W2.heap.size]? = some (.cells #[.slice ao_v L_v cap_v, .int .i64 st.h.n, .string st.h.r, .slice ao_p L_p cap_p, .int .i64 (L_p : Int)] 30 (0, 0))) := r_s9
      have z9 := g9.size
      have B9 : Hid (Below w.heap.size w W9) := belowGro B8.out g9 B8.out.size (fun k9 h9 => by injection h9 with h9; have := B8.out.size; omega)
      have r_res9 := Ke.s r_res8 g9
      have o_v9 := Ke.t o_v8 r_s8 g9
      have o_p9 := Ke.t o_p8 r_s8 g9
      have o_n9 := Ke.t o_n8 r_s8 g9
      have o_y9 := Ke.t o_y8 r_s8 g9
      clear r_res8 r_x8 o_v8 o_p8 o_n8 o_y8
      clear r_s8
      clear g9
      go_wp2_with (first | (refine wpList_load_row rfl 30 _ rfl (W2.heap.size) rfl 30 (sc (.slice ao_v L_v cap_v) st.h (.slice ao_p L_p cap_p) (L_p : Int)) (0, 0) _ r_s9.out Tryz.underlying30 rfl (sizeS _ _ _ _) ?_) | (refine wpList_store_row rfl 30 _ _ rfl (w.heap.size) (sc (.slice ao_v L_v cap_v) st.h (.slice ao_p L_p cap_p) (L_p : Int)) rfl rfl 30 _ r_res9.out (sizeS _ _ _ _) rfl (oneS _ _ rfl rfl) ?_))
      refine bodyPost_ret (res_row_tmp rfl _ _ (w.heap.size) 30 (sc (.slice ao_v L_v cap_v) st.h (.slice ao_p L_p cap_p) (L_p : Int)) (0, 0) _ rfl (setRow_heap _ _ _ _ _ (0, 0) r_res9.out) Tryz.underlying30 rfl (sizeS _ _ _ _)) rfl ⟨.slice ao_v L_v cap_v, .slice ao_p L_p cap_p, by rw [HN.out]; simp only [sc]; rw [← HLP.out]; rfl, ?_, ?_, below_setRow B9.out (by omega) _⟩
      ·
       rw [HN.out]
       exact (Own.setRow o_v9.out _ (by omega)).mono (by omega) (by rw [size_setRow]; omega)
      ·
       rw [HN.out]
       exact (Own.setRow o_p9.out _ (by omega)).mono (by omega) (by rw [size_setRow]; omega)
   ·
    have hl3 : ¬ ((a : Int) < ((xs.length : Int) : Int)) := fun h9 => hlt (hlt2.1 h9)
    clear hlt2
    have HN : Hid (R = (st, n)) := open_end hlt HF.out
    have HLP : Hid ((L_p : Int) = (st.b.length : Int)) := by show _ = _; omega
    go_wp2_with (refine wpl_oneG rfl 3 _ _ rfl (W2.heap.size) 4 (.int .i64 (L_p : Int)) rfl rfl [.slice ao_v L_v cap_v, .int .i64 st.h.n, .string st.h.r, .slice ao_p L_p cap_p, .int .i64 st.s] 30 r_s4.out (Nat.le_of_ble_eq_true rfl) (by kernel_rfl) rfl [.slice ao_v L_v cap_v, .int .i64 st.h.n, .string st.h.r, .slice ao_p L_p cap_p, .int .i64 (L_p : Int)] rfl ?_)
    intro W5 r_s5 g5
    have r_s5 := Ke.h r_s5
    have z5 := g5.size
    have B5 : Hid (Below w.heap.size w W5) := belowGro B4.out g5 B4.out.size (fun k9 h9 => by injection h9 with h9; have := B4.out.size; omega)
    have r_res5 := Ke.s r_res4 g5
    have o_v5 := Ke.t o_v4 r_s4 g5
    have o_p5 := Ke.t o_p4 r_s4 g5
    have c_s5 := Ke.c r_s5
    clear r_res4 o_v4 o_p4
    clear r_s4 c_s4
    clear g5
    go_wp2_with (first | (refine wpList_load_row rfl 30 _ rfl (W2.heap.size) rfl 30 (sc (.slice ao_v L_v cap_v) st.h (.slice ao_p L_p cap_p) (L_p : Int)) (0, 0) _ r_s5.out Tryz.underlying30 rfl (sizeS _ _ _ _) ?_) | (refine wpList_store_row rfl 30 _ _ rfl (w.heap.size) (sc (.slice ao_v L_v cap_v) st.h (.slice ao_p L_p cap_p) (L_p : Int)) rfl rfl 30 _ r_res5.out (sizeS _ _ _ _) rfl (oneS _ _ rfl rfl) ?_))
    refine bodyPost_ret (res_row_tmp rfl _ _ (w.heap.size) 30 (sc (.slice ao_v L_v cap_v) st.h (.slice ao_p L_p cap_p) (L_p : Int)) (0, 0) _ rfl (setRow_heap _ _ _ _ _ (0, 0) r_res5.out) Tryz.underlying30 rfl (sizeS _ _ _ _)) rfl ⟨.slice ao_v L_v cap_v, .slice ao_p L_p cap_p, by rw [HN.out]; simp only [sc]; rw [← HLP.out]; rfl, ?_, ?_, below_setRow B5.out (by omega) _⟩
    ·
     rw [HN.out]
     exact (Own.setRow o_v5.out _ (by omega)).mono (by omega) (by rw [size_setRow]; omega)
    ·
     rw [HN.out]
     exact (Own.setRow o_p5.out _ (by omega)).mono (by omega) (by rw [size_setRow]; omega)
set_option maxRecDepth 1000000 in
set_option maxHeartbeats 16000000 in
theorem fall_spec (w : World) (v vb : Value) (l : List ByteArray) (h : Hd) (b : List Int) (s keep : Int) (hs : Sl w v (ss l)) (hb : Sl w vb (bs b)) (hbl : b.length ≤ 1000000000) (hs1 : -9223372036854775808 ≤ s) (hs2 : s ≤ 9223372036854775807) (hk1 : -9223372036854775808 ≤ keep) (hk2 : keep ≤ 9223372036854775807) :
  Calls Tryz.prog 116 #[.agg #[v, .int .i64 h.n, .string h.r, vb, .int .i64 s], .int .i64 keep] w fun e w' => ∃ v', e = .returned v' ∧ Own w' w.heap.size w'.heap.size 5 v' (bs (b.take (fallN ⟨l, h, b, s⟩ keep))) ∧ Below w.heap.size w w' := by
 have HSB : Hid (Sl w vb (bs b)) := hb
 obtain ⟨ao0, cap0, rfl, hc0⟩ := hs.form
 obtain ⟨ao1, cap1, rfl, hc1⟩ := hb.form
 simp only [ss_len, bs_len] at *
 clear hs hb
 have B0 : Hid (Below w.heap.size w w) := Below.refl _ _
 obtain ⟨i5, hi5, hz5a, hz5b, hz5c⟩ := info_parts info5
 obtain ⟨W1, HW1, b1, y1, hS1, r_a1⟩ := Ke.l1 w #[.slice ao0 l.length cap0, .int .i64 h.n, .string h.r, .slice ao1 b.length cap1, .int .i64 s] 30
 have z1 := b1.size
 have B1 := Ke.b B0 b1
 have c_a1 := Ke.c r_a1
 obtain ⟨K, hK⟩ : ∃ K, fallN ⟨l, h, b, s⟩ keep = K := ⟨_, rfl⟩
 rw [hK]
 unfold fallN at hK
 simp only at hK
 by_cases hs0 : s < 0
 ·
  by_cases hk0 : 0 < keep
  ·
   by_cases hk1 : (b.length : Int) - 0 < keep
   ·
    have hKK : K = b.length := by omega
    have HKK : Hid (K = b.length) := hKK
    have hKb : b.length ≤ b.length := by omega
    clear hKK hK
    go_enter Tryz.func116, Tryz.ntmps116
    go_upto_region 10 with fail
    rw [HW1.out]
    have a_a1 := Ke.a r_a1
    obtain ⟨W2, HW2, b2, o_e2⟩ : ∃ X, Hid ((W1.alloc (.cells #[] 5)) = X) ∧ Below W1.heap.size W1 X ∧ Hid (Own X W1.heap.size X.heap.size 5 (.slice (some ⟨W1.heap.size, 0, none⟩) 0 0) (bs [])) := ⟨_, rfl, (Below.refl _ _).alloc (Nat.le_refl _) _, Puts.Own.empty W1 W1.heap.size (Nat.le_refl _)⟩
    have z2 := b2.size
    have B2 := Ke.b B1 b2
    have r_a2 := Ke.r r_a1 b2
    have c_a2 := Ke.c r_a2
    clear r_a1 c_a1
    have c6_3 : (bs []).length + (bs b).length ≤ maxLen := by rw [bs_len, bs_len]; unfold maxLen; (try simp only [List.length_nil]); omega
    have c7_3 : ((bs []).length + (bs b).length) * 1 ≤ 140737488355328 := by rw [bs_len, bs_len]; (try simp only [List.length_nil]); omega
    have sE3 : Hid (Sl W2 _ (bs b)) := (HSB.out.later B2.out)
    go_wp2_with (at_builtin; (try rw [HW2.out]); go_must (refine wpl_app _ rfl (.tmp 35) (.tmp 39) 22 rfl 5 i5 (.int .u8 0) 1 Tryz.underlying22 hi5 hz5a hz5b hz5c rfl (W1.heap.size) _ (bs []) rfl (Own.mono o_e2.out (Nat.le_refl _) (by omega)) _ rfl (bs b) sE3.out (bs_one b) c6_3 c7_3 (by omega) ?_))
    intro v_p W3 o_p3 _ g3
    clear a_a1
    have o_p3 : Own W3 (W1.heap.size) W3.heap.size 5 v_p (bs b) := o_p3
    have o_p3h : Hid (Own W3 (W1.heap.size) W3.heap.size 5 v_p (bs b)) := o_p3
    clear o_p3
    have o_p3 := o_p3h
    clear o_p3h
    obtain ⟨ao_p, L_p, cap_p, rfl, _, _⟩ := Mem.Own.form o_p3.out
    have z3 := g3.size
    have B3 : Hid (Below w.heap.size w W3) := belowGro B2.out g3 B2.out.size (Own.low o_e2.out (by have := B2.out.size; omega))
    have r_a3 := Ke.n r_a2 o_e2 g3
    have c_a3 := Ke.c r_a3
    clear r_a2 c_a2 o_e2
    clear g3 sE3 c6_3 c7_3
    go_wp2
    go_ret
    refine ⟨_, rfl, ?_, B3.out⟩
    rw [HKK.out]
    rw [List.take_of_length_le (Nat.le_refl _)]
    exact Own.mono o_p3.out (by omega) (Nat.le_refl _)
   ·
    obtain ⟨k, rfl⟩ : ∃ k : Nat, keep = (k : Int) := ⟨keep.toNat, by omega⟩
    have hKK : K = k := by omega
    have HKK : Hid (K = k) := hKK
    have hKb : k ≤ b.length := by omega
    clear hKK hK
    go_enter Tryz.func116, Tryz.ntmps116
    go_upto_region 10 with fail
    rw [HW1.out]
    have a_a1 := Ke.a r_a1
    obtain ⟨W2, HW2, b2, o_e2⟩ : ∃ X, Hid ((W1.alloc (.cells #[] 5)) = X) ∧ Below W1.heap.size W1 X ∧ Hid (Own X W1.heap.size X.heap.size 5 (.slice (some ⟨W1.heap.size, 0, none⟩) 0 0) (bs [])) := ⟨_, rfl, (Below.refl _ _).alloc (Nat.le_refl _) _, Puts.Own.empty W1 W1.heap.size (Nat.le_refl _)⟩
    have z2 := b2.size
    have B2 := Ke.b B1 b2
    have r_a2 := Ke.r r_a1 b2
    have c_a2 := Ke.c r_a2
    clear r_a1 c_a1
    have c6_3 : (bs []).length + (bs (b.take (k))).length ≤ maxLen := by rw [bs_len, bs_len]; unfold maxLen; (try simp only [List.length_nil]); rw [List.length_take]; omega
    have c7_3 : ((bs []).length + (bs (b.take (k))).length) * 1 ≤ 140737488355328 := by rw [bs_len, bs_len]; (try simp only [List.length_nil]); rw [List.length_take]; omega
    have sE3 : Hid (Sl W2 _ (bs (b.take (k)))) := (by have h9 := Sl.front ((HSB.out.later B2.out)) (k) (by rw [bs_len]; omega); have e9 : bs (b.take (k)) = (bs b).take (k) := by { unfold bs; rw [List.map_take] }; rw [e9]; exact h9)
    go_wp2_with (at_builtin; (try rw [HW2.out]); go_must (refine wpl_app _ rfl (.tmp 35) (.tmp 39) 22 rfl 5 i5 (.int .u8 0) 1 Tryz.underlying22 hi5 hz5a hz5b hz5c rfl (W1.heap.size) _ (bs []) rfl (Own.mono o_e2.out (Nat.le_refl _) (by omega)) _ rfl (bs (b.take (k))) sE3.out (bs_one (b.take (k))) c6_3 c7_3 (by omega) ?_))
    intro v_p W3 o_p3 _ g3
    clear a_a1
    have o_p3 : Own W3 (W1.heap.size) W3.heap.size 5 v_p (bs (b.take (k))) := o_p3
    have o_p3h : Hid (Own W3 (W1.heap.size) W3.heap.size 5 v_p (bs (b.take (k)))) := o_p3
    clear o_p3
    have o_p3 := o_p3h
    clear o_p3h
    obtain ⟨ao_p, L_p, cap_p, rfl, _, _⟩ := Mem.Own.form o_p3.out
    have z3 := g3.size
    have B3 : Hid (Below w.heap.size w W3) := belowGro B2.out g3 B2.out.size (Own.low o_e2.out (by have := B2.out.size; omega))
    have r_a3 := Ke.n r_a2 o_e2 g3
    have c_a3 := Ke.c r_a3
    clear r_a2 c_a2 o_e2
    clear g3 sE3 c6_3 c7_3
    go_wp2
    go_ret
    refine ⟨_, rfl, ?_, B3.out⟩
    rw [HKK.out]
    exact Own.mono o_p3.out (by omega) (Nat.le_refl _)
  ·
   have hKK : K = 0 := by omega
   have HKK : Hid (K = 0) := hKK
   have hKb : 0 ≤ b.length := by omega
   clear hKK hK
   go_enter Tryz.func116, Tryz.ntmps116
   go_upto_region 10 with fail
   rw [HW1.out]
   have a_a1 := Ke.a r_a1
   obtain ⟨W2, HW2, b2, o_e2⟩ : ∃ X, Hid ((W1.alloc (.cells #[] 5)) = X) ∧ Below W1.heap.size W1 X ∧ Hid (Own X W1.heap.size X.heap.size 5 (.slice (some ⟨W1.heap.size, 0, none⟩) 0 0) (bs [])) := ⟨_, rfl, (Below.refl _ _).alloc (Nat.le_refl _) _, Puts.Own.empty W1 W1.heap.size (Nat.le_refl _)⟩
   have z2 := b2.size
   have B2 := Ke.b B1 b2
   have r_a2 := Ke.r r_a1 b2
   have c_a2 := Ke.c r_a2
   clear r_a1 c_a1
   have c6_3 : (bs []).length + (bs (b.take (0))).length ≤ maxLen := by rw [bs_len, bs_len]; unfold maxLen; (try simp only [List.length_nil]); rw [List.length_take]; omega
   have c7_3 : ((bs []).length + (bs (b.take (0))).length) * 1 ≤ 140737488355328 := by rw [bs_len, bs_len]; (try simp only [List.length_nil]); rw [List.length_take]; omega
   have sE3 : Hid (Sl W2 _ (bs (b.take (0)))) := (by have h9 := Sl.front ((HSB.out.later B2.out)) (0) (by rw [bs_len]; omega); have e9 : bs (b.take (0)) = (bs b).take (0) := by { unfold bs; rw [List.map_take] }; rw [e9]; exact h9)
   go_wp2_with (at_builtin; (try rw [HW2.out]); go_must (refine wpl_app _ rfl (.tmp 35) (.tmp 39) 22 rfl 5 i5 (.int .u8 0) 1 Tryz.underlying22 hi5 hz5a hz5b hz5c rfl (W1.heap.size) _ (bs []) rfl (Own.mono o_e2.out (Nat.le_refl _) (by omega)) _ rfl (bs (b.take (0))) sE3.out (bs_one (b.take (0))) c6_3 c7_3 (by omega) ?_))
   intro v_p W3 o_p3 _ g3
   clear a_a1
   have o_p3 : Own W3 (W1.heap.size) W3.heap.size 5 v_p (bs (b.take (0))) := o_p3
   have o_p3h : Hid (Own W3 (W1.heap.size) W3.heap.size 5 v_p (bs (b.take (0)))) := o_p3
   clear o_p3
   have o_p3 := o_p3h
   clear o_p3h
   obtain ⟨ao_p, L_p, cap_p, rfl, _, _⟩ := Mem.Own.form o_p3.out
   have z3 := g3.size
   have B3 : Hid (Below w.heap.size w W3) := belowGro B2.out g3 B2.out.size (Own.low o_e2.out (by have := B2.out.size; omega))
   have r_a3 := Ke.n r_a2 o_e2 g3
   have c_a3 := Ke.c r_a3
   clear r_a2 c_a2 o_e2
   clear g3 sE3 c6_3 c7_3
   go_wp2
   go_ret
   refine ⟨_, rfl, ?_, B3.out⟩
   rw [HKK.out]
   exact Own.mono o_p3.out (by omega) (Nat.le_refl _)
 ·
  by_cases hs1 : (b.length : Int) < s
  ·
   by_cases hk0 : 0 < keep
   ·
    have g1 : (b.length : Int) - (b.length : Int) < keep := by omega
    have hKK : K = b.length := by omega
    have HKK : Hid (K = b.length) := hKK
    have hKb : b.length ≤ b.length := by omega
    clear hKK hK
    go_enter Tryz.func116, Tryz.ntmps116
    go_upto_region 10 with fail
    rw [HW1.out]
    have a_a1 := Ke.a r_a1
    obtain ⟨W2, HW2, b2, o_e2⟩ : ∃ X, Hid ((W1.alloc (.cells #[] 5)) = X) ∧ Below W1.heap.size W1 X ∧ Hid (Own X W1.heap.size X.heap.size 5 (.slice (some ⟨W1.heap.size, 0, none⟩) 0 0) (bs [])) := ⟨_, rfl, (Below.refl _ _).alloc (Nat.le_refl _) _, Puts.Own.empty W1 W1.heap.size (Nat.le_refl _)⟩
    have z2 := b2.size
    have B2 := Ke.b B1 b2
    have r_a2 := Ke.r r_a1 b2
    have c_a2 := Ke.c r_a2
    clear r_a1 c_a1
    have c6_3 : (bs []).length + (bs b).length ≤ maxLen := by rw [bs_len, bs_len]; unfold maxLen; (try simp only [List.length_nil]); omega
    have c7_3 : ((bs []).length + (bs b).length) * 1 ≤ 140737488355328 := by rw [bs_len, bs_len]; (try simp only [List.length_nil]); omega
    have sE3 : Hid (Sl W2 _ (bs b)) := (HSB.out.later B2.out)
    go_wp2_with (at_builtin; (try rw [HW2.out]); go_must (refine wpl_app _ rfl (.tmp 35) (.tmp 39) 22 rfl 5 i5 (.int .u8 0) 1 Tryz.underlying22 hi5 hz5a hz5b hz5c rfl (W1.heap.size) _ (bs []) rfl (Own.mono o_e2.out (Nat.le_refl _) (by omega)) _ rfl (bs b) sE3.out (bs_one b) c6_3 c7_3 (by omega) ?_))
    intro v_p W3 o_p3 _ g3
    clear a_a1
    have o_p3 : Own W3 (W1.heap.size) W3.heap.size 5 v_p (bs b) := o_p3
    have o_p3h : Hid (Own W3 (W1.heap.size) W3.heap.size 5 v_p (bs b)) := o_p3
    clear o_p3
    have o_p3 := o_p3h
    clear o_p3h
    obtain ⟨ao_p, L_p, cap_p, rfl, _, _⟩ := Mem.Own.form o_p3.out
    have z3 := g3.size
    have B3 : Hid (Below w.heap.size w W3) := belowGro B2.out g3 B2.out.size (Own.low o_e2.out (by have := B2.out.size; omega))
    have r_a3 := Ke.n r_a2 o_e2 g3
    have c_a3 := Ke.c r_a3
    clear r_a2 c_a2 o_e2
    clear g3 sE3 c6_3 c7_3
    go_wp2
    go_ret
    refine ⟨_, rfl, ?_, B3.out⟩
    rw [HKK.out]
    rw [List.take_of_length_le (Nat.le_refl _)]
    exact Own.mono o_p3.out (by omega) (Nat.le_refl _)
   ·
    have hKK : K = b.length := by omega
    have HKK : Hid (K = b.length) := hKK
    have hKb : b.length ≤ b.length := by omega
    clear hKK hK
    go_enter Tryz.func116, Tryz.ntmps116
    go_upto_region 10 with fail
    rw [HW1.out]
    have a_a1 := Ke.a r_a1
    obtain ⟨W2, HW2, b2, o_e2⟩ : ∃ X, Hid ((W1.alloc (.cells #[] 5)) = X) ∧ Below W1.heap.size W1 X ∧ Hid (Own X W1.heap.size X.heap.size 5 (.slice (some ⟨W1.heap.size, 0, none⟩) 0 0) (bs [])) := ⟨_, rfl, (Below.refl _ _).alloc (Nat.le_refl _) _, Puts.Own.empty W1 W1.heap.size (Nat.le_refl _)⟩
    have z2 := b2.size
    have B2 := Ke.b B1 b2
    have r_a2 := Ke.r r_a1 b2
    have c_a2 := Ke.c r_a2
    clear r_a1 c_a1
    have c6_3 : (bs []).length + (bs b).length ≤ maxLen := by rw [bs_len, bs_len]; unfold maxLen; (try simp only [List.length_nil]); omega
    have c7_3 : ((bs []).length + (bs b).length) * 1 ≤ 140737488355328 := by rw [bs_len, bs_len]; (try simp only [List.length_nil]); omega
    have sE3 : Hid (Sl W2 _ (bs b)) := (HSB.out.later B2.out)
    go_wp2_with (at_builtin; (try rw [HW2.out]); go_must (refine wpl_app _ rfl (.tmp 35) (.tmp 39) 22 rfl 5 i5 (.int .u8 0) 1 Tryz.underlying22 hi5 hz5a hz5b hz5c rfl (W1.heap.size) _ (bs []) rfl (Own.mono o_e2.out (Nat.le_refl _) (by omega)) _ rfl (bs b) sE3.out (bs_one b) c6_3 c7_3 (by omega) ?_))
    intro v_p W3 o_p3 _ g3
    clear a_a1
    have o_p3 : Own W3 (W1.heap.size) W3.heap.size 5 v_p (bs b) := o_p3
    have o_p3h : Hid (Own W3 (W1.heap.size) W3.heap.size 5 v_p (bs b)) := o_p3
    clear o_p3
    have o_p3 := o_p3h
    clear o_p3h
    obtain ⟨ao_p, L_p, cap_p, rfl, _, _⟩ := Mem.Own.form o_p3.out
    have z3 := g3.size
    have B3 : Hid (Below w.heap.size w W3) := belowGro B2.out g3 B2.out.size (Own.low o_e2.out (by have := B2.out.size; omega))
    have r_a3 := Ke.n r_a2 o_e2 g3
    have c_a3 := Ke.c r_a3
    clear r_a2 c_a2 o_e2
    clear g3 sE3 c6_3 c7_3
    go_wp2
    go_ret
    refine ⟨_, rfl, ?_, B3.out⟩
    rw [HKK.out]
    rw [List.take_of_length_le (Nat.le_refl _)]
    exact Own.mono o_p3.out (by omega) (Nat.le_refl _)
  ·
   obtain ⟨m, rfl⟩ : ∃ m : Nat, s = (m : Int) := ⟨s.toNat, by omega⟩
   have hmb : m ≤ b.length := by omega
   by_cases hk0 : 0 < keep
   ·
    by_cases hk1 : (b.length : Int) - (m : Int) < keep
    ·
     have hsum : (m : Int) + ((b.length : Int) - (m : Int)) = (b.length : Int) := by omega
     have hKK : K = b.length := by omega
     have HKK : Hid (K = b.length) := hKK
     have hKb : b.length ≤ b.length := by omega
     clear hKK hK
     go_enter Tryz.func116, Tryz.ntmps116
     go_upto_region 10 with fail
     rw [HW1.out]
     have a_a1 := Ke.a r_a1
     obtain ⟨W2, HW2, b2, o_e2⟩ : ∃ X, Hid ((W1.alloc (.cells #[] 5)) = X) ∧ Below W1.heap.size W1 X ∧ Hid (Own X W1.heap.size X.heap.size 5 (.slice (some ⟨W1.heap.size, 0, none⟩) 0 0) (bs [])) := ⟨_, rfl, (Below.refl _ _).alloc (Nat.le_refl _) _, Puts.Own.empty W1 W1.heap.size (Nat.le_refl _)⟩
     have z2 := b2.size
     have B2 := Ke.b B1 b2
     have r_a2 := Ke.r r_a1 b2
     have c_a2 := Ke.c r_a2
     clear r_a1 c_a1
     have c6_3 : (bs []).length + (bs b).length ≤ maxLen := by rw [bs_len, bs_len]; unfold maxLen; (try simp only [List.length_nil]); omega
     have c7_3 : ((bs []).length + (bs b).length) * 1 ≤ 140737488355328 := by rw [bs_len, bs_len]; (try simp only [List.length_nil]); omega
     have sE3 : Hid (Sl W2 _ (bs b)) := (HSB.out.later B2.out)
     go_wp2_with (at_builtin; (try rw [HW2.out]); go_must (refine wpl_app _ rfl (.tmp 35) (.tmp 39) 22 rfl 5 i5 (.int .u8 0) 1 Tryz.underlying22 hi5 hz5a hz5b hz5c rfl (W1.heap.size) _ (bs []) rfl (Own.mono o_e2.out (Nat.le_refl _) (by omega)) _ rfl (bs b) sE3.out (bs_one b) c6_3 c7_3 (by omega) ?_))
     intro v_p W3 o_p3 _ g3
     clear a_a1
     have o_p3 : Own W3 (W1.heap.size) W3.heap.size 5 v_p (bs b) := o_p3
     have o_p3h : Hid (Own W3 (W1.heap.size) W3.heap.size 5 v_p (bs b)) := o_p3
     clear o_p3
     have o_p3 := o_p3h
     clear o_p3h
     obtain ⟨ao_p, L_p, cap_p, rfl, _, _⟩ := Mem.Own.form o_p3.out
     have z3 := g3.size
     have B3 : Hid (Below w.heap.size w W3) := belowGro B2.out g3 B2.out.size (Own.low o_e2.out (by have := B2.out.size; omega))
     have r_a3 := Ke.n r_a2 o_e2 g3
     have c_a3 := Ke.c r_a3
     clear r_a2 c_a2 o_e2
     clear g3 sE3 c6_3 c7_3
     go_wp2
     go_ret
     refine ⟨_, rfl, ?_, B3.out⟩
     rw [HKK.out]
     rw [List.take_of_length_le (Nat.le_refl _)]
     exact Own.mono o_p3.out (by omega) (Nat.le_refl _)
    ·
     obtain ⟨k, rfl⟩ : ∃ k : Nat, keep = (k : Int) := ⟨keep.toNat, by omega⟩
     have hKK : K = m + k := by omega
     have HKK : Hid (K = m + k) := hKK
     have hKb : m + k ≤ b.length := by omega
     clear hKK hK
     go_enter Tryz.func116, Tryz.ntmps116
     go_upto_region 10 with fail
     rw [HW1.out]
     have a_a1 := Ke.a r_a1
     obtain ⟨W2, HW2, b2, o_e2⟩ : ∃ X, Hid ((W1.alloc (.cells #[] 5)) = X) ∧ Below W1.heap.size W1 X ∧ Hid (Own X W1.heap.size X.heap.size 5 (.slice (some ⟨W1.heap.size, 0, none⟩) 0 0) (bs [])) := ⟨_, rfl, (Below.refl _ _).alloc (Nat.le_refl _) _, Puts.Own.empty W1 W1.heap.size (Nat.le_refl _)⟩
     have z2 := b2.size
     have B2 := Ke.b B1 b2
     have r_a2 := Ke.r r_a1 b2
     have c_a2 := Ke.c r_a2
     clear r_a1 c_a1
     have c6_3 : (bs []).length + (bs (b.take (m + k))).length ≤ maxLen := by rw [bs_len, bs_len]; unfold maxLen; (try simp only [List.length_nil]); rw [List.length_take]; omega
     have c7_3 : ((bs []).length + (bs (b.take (m + k))).length) * 1 ≤ 140737488355328 := by rw [bs_len, bs_len]; (try simp only [List.length_nil]); rw [List.length_take]; omega
     have sE3 : Hid (Sl W2 _ (bs (b.take (m + k)))) := (by have h9 := Sl.front ((HSB.out.later B2.out)) (m + k) (by rw [bs_len]; omega); have e9 : bs (b.take (m + k)) = (bs b).take (m + k) := by { unfold bs; rw [List.map_take] }; rw [e9]; exact h9)
     go_wp2_with (at_builtin; (try rw [HW2.out]); go_must (refine wpl_app _ rfl (.tmp 35) (.tmp 39) 22 rfl 5 i5 (.int .u8 0) 1 Tryz.underlying22 hi5 hz5a hz5b hz5c rfl (W1.heap.size) _ (bs []) rfl (Own.mono o_e2.out (Nat.le_refl _) (by omega)) _ rfl (bs (b.take (m + k))) sE3.out (bs_one (b.take (m + k))) c6_3 c7_3 (by omega) ?_))
     intro v_p W3 o_p3 _ g3
     clear a_a1
     have o_p3 : Own W3 (W1.heap.size) W3.heap.size 5 v_p (bs (b.take (m + k))) := o_p3
     have o_p3h : Hid (Own W3 (W1.heap.size) W3.heap.size 5 v_p (bs (b.take (m + k)))) := o_p3
     clear o_p3
     have o_p3 := o_p3h
     clear o_p3h
     obtain ⟨ao_p, L_p, cap_p, rfl, _, _⟩ := Mem.Own.form o_p3.out
     have z3 := g3.size
     have B3 : Hid (Below w.heap.size w W3) := belowGro B2.out g3 B2.out.size (Own.low o_e2.out (by have := B2.out.size; omega))
     have r_a3 := Ke.n r_a2 o_e2 g3
     have c_a3 := Ke.c r_a3
     clear r_a2 c_a2 o_e2
     clear g3 sE3 c6_3 c7_3
     go_wp2
     go_ret
     refine ⟨_, rfl, ?_, B3.out⟩
     rw [HKK.out]
     exact Own.mono o_p3.out (by omega) (Nat.le_refl _)
   ·
    have hKK : K = m := by omega
    have HKK : Hid (K = m) := hKK
    have hKb : m ≤ b.length := by omega
    clear hKK hK
    go_enter Tryz.func116, Tryz.ntmps116
    go_upto_region 10 with fail
    rw [HW1.out]
    have a_a1 := Ke.a r_a1
    obtain ⟨W2, HW2, b2, o_e2⟩ : ∃ X, Hid ((W1.alloc (.cells #[] 5)) = X) ∧ Below W1.heap.size W1 X ∧ Hid (Own X W1.heap.size X.heap.size 5 (.slice (some ⟨W1.heap.size, 0, none⟩) 0 0) (bs [])) := ⟨_, rfl, (Below.refl _ _).alloc (Nat.le_refl _) _, Puts.Own.empty W1 W1.heap.size (Nat.le_refl _)⟩
    have z2 := b2.size
    have B2 := Ke.b B1 b2
    have r_a2 := Ke.r r_a1 b2
    have c_a2 := Ke.c r_a2
    clear r_a1 c_a1
    have c6_3 : (bs []).length + (bs (b.take (m))).length ≤ maxLen := by rw [bs_len, bs_len]; unfold maxLen; (try simp only [List.length_nil]); rw [List.length_take]; omega
    have c7_3 : ((bs []).length + (bs (b.take (m))).length) * 1 ≤ 140737488355328 := by rw [bs_len, bs_len]; (try simp only [List.length_nil]); rw [List.length_take]; omega
    have sE3 : Hid (Sl W2 _ (bs (b.take (m)))) := (by have h9 := Sl.front ((HSB.out.later B2.out)) (m) (by rw [bs_len]; omega); have e9 : bs (b.take (m)) = (bs b).take (m) := by { unfold bs; rw [List.map_take] }; rw [e9]; exact h9)
    go_wp2_with (at_builtin; (try rw [HW2.out]); go_must (refine wpl_app _ rfl (.tmp 35) (.tmp 39) 22 rfl 5 i5 (.int .u8 0) 1 Tryz.underlying22 hi5 hz5a hz5b hz5c rfl (W1.heap.size) _ (bs []) rfl (Own.mono o_e2.out (Nat.le_refl _) (by omega)) _ rfl (bs (b.take (m))) sE3.out (bs_one (b.take (m))) c6_3 c7_3 (by omega) ?_))
    intro v_p W3 o_p3 _ g3
    clear a_a1
    have o_p3 : Own W3 (W1.heap.size) W3.heap.size 5 v_p (bs (b.take (m))) := o_p3
    have o_p3h : Hid (Own W3 (W1.heap.size) W3.heap.size 5 v_p (bs (b.take (m)))) := o_p3
    clear o_p3
    have o_p3 := o_p3h
    clear o_p3h
    obtain ⟨ao_p, L_p, cap_p, rfl, _, _⟩ := Mem.Own.form o_p3.out
    have z3 := g3.size
    have B3 : Hid (Below w.heap.size w W3) := belowGro B2.out g3 B2.out.size (Own.low o_e2.out (by have := B2.out.size; omega))
    have r_a3 := Ke.n r_a2 o_e2 g3
    have c_a3 := Ke.c r_a3
    clear r_a2 c_a2 o_e2
    clear g3 sE3 c6_3 c7_3
    go_wp2
    go_ret
    refine ⟨_, rfl, ?_, B3.out⟩
    rw [HKK.out]
    exact Own.mono o_p3.out (by omega) (Nat.le_refl _)
end Go.Proofs.YtchonoonclllbaaGreatDoor.Sr
