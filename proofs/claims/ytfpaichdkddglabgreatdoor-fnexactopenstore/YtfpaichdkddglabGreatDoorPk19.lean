/- Texts in one: SrG. -/
import Derived.Test.YtfpaichdkddglabGreatDoorPk16
import Derived.Test.YtfpaichdkddglabGreatDoorPk18
namespace Go.Proofs.YtfpaichdkddglabGreatDoor.Sr
open Go.RowKit Go.Proofs.YtfpaichdkddglabGreatDoor.Mem Go.Proofs.YtfpaichdkddglabGreatDoor.Laws Go.Proofs.YtfpaichdkddglabGreatDoor.Bytes Go.Proofs.YtfpaichdkddglabGreatDoor.Sha Go.Proofs.YtfpaichdkddglabGreatDoor.Tr Go.Proofs.YtfpaichdkddglabGreatDoor.He Go.Proofs.YtfpaichdkddglabGreatDoor.Lg
set_option linter.unusedVariables false
set_option linter.unusedSimpArgs false
theorem tot_txs : ∀ l : List ByteArray, Puts.tot l ≤ (Puts.txs l).length := by
 intro l
 induction l with
 | nil => exact Nat.le_refl _
 | cons a r ih =>
  have : (Puts.tx a).length = (Puts.num (a.size : Int)).length + a.size := by unfold Puts.tx; rw [List.length_append, sb_len]
  simp only [Puts.txs, Puts.tot, List.length_append]
  omega
theorem tot_body (h : Hd) (x : List ByteArray) : Puts.tot x ≤ (body h x).length := by
 have := tot_txs x
 unfold body
 simp only [List.length_append]
 omega
theorem open_step {t : List Hd} {xs : List Int} {a n : Nat} {st : Sto} {R : Sto × Nat} {h : Hd} {x : List ByteArray} {p : Int} {ok : Bool} (hlt : a < xs.length) (hg : getC xs (a : Int) = (h, x, p, ok))
  (hf : ∃ f, xs.length - a ≤ f ∧ openF f t xs a st n = R) :
  (¬ (ok = true ∧ (commit1 st t h x).2 = 0) → R = (st, n)) ∧
  (Byt xs → ok = true → ∃ q : Nat, p = (q : Int) ∧ a < q ∧ q ≤ xs.length ∧ (put h x).length = q - a ∧ h.r.size = 32 ∧ (∀ s ∈ x, s.size ≤ 1000000000) ∧ Puts.tot x ≤ 1000000000 ∧ ((commit1 st t h x).2 = 0 → ∃ f, xs.length - q ≤ f ∧ openF f t xs q (commit1 st t h x).1 (n + 1) = R)) := by
 obtain ⟨f, hf1, hf2⟩ := hf
 obtain ⟨f, rfl⟩ : ∃ k, f = k + 1 := ⟨f - 1, by omega⟩
 rw [openF, if_pos hlt, hg] at hf2
 simp only at hf2
 refine ⟨fun hn => ?_, fun hb h1 => ?_⟩
 ·
  rw [if_neg hn] at hf2; exact hf2.symm
 ·
  subst h1
  obtain ⟨q, rfl, hq, hqx, hk, _, _, hbl, _⟩ := put_get hb hg
  have hp := put_pos h x
  refine ⟨q, rfl, by omega, hqx, by omega, (okH_parts hk).2.2, fun s hs => Nat.le_trans (size_body (h := h) hs) hbl, Nat.le_trans (tot_body h x) hbl, fun hc => ⟨f, by omega, ?_⟩⟩
  rw [if_pos ⟨rfl, hc⟩] at hf2
  exact hf2
theorem open_end {t : List Hd} {xs : List Int} {a n : Nat} {st : Sto} {R : Sto × Nat} (hlt : ¬ a < xs.length) (hf : ∃ f, xs.length - a ≤ f ∧ openF f t xs a st n = R) : R = (st, n) := by
 obtain ⟨f, _, hf2⟩ := hf
 cases f with
 | zero => exact hf2.symm
 | succ f => rw [openF, if_neg hlt] at hf2; exact hf2.symm
set_option maxRecDepth 1000000 in
set_option maxHeartbeats 8000000 in
theorem open_any (w : World) (vt vb : Value) (t : List Hd) (xs ys : List Int) (hst : Sh w vt t) (hs : Sl w vb (bs xs)) (hb : Byt xs) (hx : xs.length ≤ 1000000000000) (htl : t.length ≤ 1000000000) (hys : xs.take 60000 = ys) :
  Calls Tryz.prog 25 #[vt, vb] w fun e w' => ∃ v' vb', e = .returned (.tuple #[.agg #[v', .int .i64 (openS t xs).1.h.n, .string (openS t xs).1.h.r, vb', .int .i64 (openS t xs).1.s], .int .i64 ((openS t xs).2 : Int)]) ∧ Own w' w.heap.size w'.heap.size 9 v' (ss (openS t xs).1.l) ∧ Own w' w.heap.size w'.heap.size 5 vb' (bs (openS t xs).1.b) ∧ Below w.heap.size w w' := by
 obtain ⟨R, hR⟩ : ∃ R, openF ys.length t ys 0 new12 0 = R := ⟨_, rfl⟩
 have HF0 : Hid (∃ f, ys.length - 0 ≤ f ∧ openF f t ys 0 new12 0 = R) := ⟨ys.length, by omega, hR⟩
 have eO : openS t xs = (⟨R.1.l, R.1.h, R.1.b, (R.1.b.length : Int)⟩, R.2) := by unfold openS; rw [hys, hR]
 rw [eO]
 have hyl : ys.length ≤ 60000 := by rw [← hys, List.length_take]; omega
 have HBY : Hid (Byt ys) := by show Byt ys; rw [← hys]; exact fun y hy => hb y (List.mem_of_mem_take hy)
 have HS : Hid (Sl w vb (bs xs)) := hs
 have HT : Hid (Sh w vt t) := hst
 have HYS : Hid (xs.take 60000 = ys) := hys
 obtain ⟨ao0, cap0, rfl, hc0⟩ := hs.form
 obtain ⟨ao2, cap2, rfl, hc2⟩ := hst.form
 simp only [bs_len] at *
 clear hs hst hb hR eO hys
 have B0 : Hid (Below w.heap.size w w) := Below.refl _ _
 obtain ⟨W1, HW1, b1, y1, hS1, r_res1⟩ : ∃ X, Hid ((w.alloc (.cells #[.slice none 0 0, .int .i64 0, .string ⟨#[]⟩, .slice none 0 0, .int .i64 0] 39)) = X) ∧ Below w.heap.size w X ∧ w.heap.size + 1 ≤ X.heap.size ∧ Hid (X.heap.size = w.heap.size + 1) ∧ Hid (X.heap[w.heap.size]? = some (.cells #[.slice none 0 0, .int .i64 0, .string ⟨#[]⟩, .slice none 0 0, .int .i64 0] 39 (0, 0))) := ⟨_, rfl, ((Below.refl _ _).alloc (Nat.le_refl _) _), by simp, by show _ = _; simp, (by show _ = _; exact alloc_nth1_0 w _)⟩
 have B1 : Hid (Below w.heap.size w W1) := B0.out.trans (b1.mono B0.out.size)
 have q0 : ∀ W, _ := fun W => storenew_spec W
 obtain ⟨M, hM⟩ : ∃ M, headOf [] = M := ⟨_, rfl⟩
 simp only [hM] at q0
 have HM : Hid (headOf [] = M) := hM
 clear hM
 go_enter Tryz.func25, Tryz.ntmps25
 go_wp2_with fail
 rw [HW1.out]
 refine (q0 W1).mono ?_
 rintro e W2 ⟨rfl, b2⟩
 have z2 : W1.heap.size ≤ W2.heap.size := b2.size
 have B2 : Hid (Below w.heap.size w W2) := B1.out.trans (b2.mono B1.out.size)
 have r_res2 : Hid (W2.heap[w.heap.size]? = some (.cells #[.slice none 0 0, .int .i64 0, .string ⟨#[]⟩, .slice none 0 0, .int .i64 0] 39 (0, 0))) := rowKeep r_res1.out b2
 clear r_res1
 obtain ⟨W3, HW3, b3, y3, hS3, r_s3⟩ : ∃ X, Hid ((W2.alloc (.cells #[.slice none 0 0, .int .i64 M.n, .string M.r, .slice none 0 0, .int .i64 0] 39)) = X) ∧ Below W2.heap.size W2 X ∧ W2.heap.size + 1 ≤ X.heap.size ∧ Hid (X.heap.size = W2.heap.size + 1) ∧ Hid (X.heap[W2.heap.size]? = some (.cells #[.slice none 0 0, .int .i64 M.n, .string M.r, .slice none 0 0, .int .i64 0] 39 (0, 0))) := ⟨_, rfl, ((Below.refl _ _).alloc (Nat.le_refl _) _), by simp, by show _ = _; simp, (by show _ = _; exact alloc_nth1_0 W2 _)⟩
 have B3 : Hid (Below w.heap.size w W3) := B2.out.trans (b3.mono B2.out.size)
 have r_res3 : Hid (W3.heap[w.heap.size]? = some (.cells #[.slice none 0 0, .int .i64 0, .string ⟨#[]⟩, .slice none 0 0, .int .i64 0] 39 (0, 0))) := rowKeep r_res2.out b3
 clear r_res2
 by_cases hbig : 60000 < xs.length
 ·
  have d6 : (60000 : Int) < (xs.length : Int) := by omega
  have hcb : (60000 : Int) ≤ (cap0 : Int) := by omega
  have hyl2 : ys.length = 60000 := by rw [← HYS.out, List.length_take]; omega
  have HV : Hid (Sl w (.slice ao0 60000 cap0) (bs ys)) := by show Sl _ _ _; rw [← HYS.out]; have h9 := Sl.front HS.out 60000 (by rw [bs_len]; omega); have e9 : bs (xs.take 60000) = (bs xs).take 60000 := by { unfold bs; rw [List.map_take] }; rw [e9]; exact h9
  have hLY : (60000 : Int) = (ys.length : Int) := by omega
  have HLY : Hid ((60000 : Int) = (ys.length : Int)) := hLY
  clear hyl2 hLY
  go_wp2_with fail
  rw [HW3.out]
  go_loopw [7, 8] (fun nv iv wr => ∃ (a n : Nat) (st : Sto) (ao : Option Addr) (L cap : Nat) (ao' : Option Addr) (L' cap' : Nat), a ≤ ys.length ∧ n ≤ a ∧ nv = .int .i64 (n : Int) ∧ iv = .int .i64 (a : Int) ∧ Hid (∃ f, ys.length - a ≤ f ∧ openF f t ys a st n = R) ∧ Hid (wr.heap[W2.heap.size]? = some (.cells #[.slice ao L cap, .int .i64 st.h.n, .string st.h.r, .slice ao' L' cap', .int .i64 st.s] 39 (0, 0))) ∧ Hid (wr.heap[w.heap.size]? = some (.cells #[.slice none 0 0, .int .i64 0, .string ⟨#[]⟩, .slice none 0 0, .int .i64 0] 39 (0, 0))) ∧ Hid (Own wr W3.heap.size wr.heap.size 9 (.slice ao L cap) (ss st.l)) ∧ Hid (Own wr W3.heap.size wr.heap.size 5 (.slice ao' L' cap') (bs st.b)) ∧ Hid (Below w.heap.size w wr) ∧ W3.heap.size ≤ wr.heap.size ∧ st.l.length ≤ 200 ∧ st.b.length ≤ a ∧ Hid (∀ s ∈ st.l, s.size ≤ 1000000000)) (fun _ iv _ => ys.length - (intOf iv).toNat)
  case atStart =>
   refine ⟨0, 0, new12, none, 0, 0, none, 0, 0, Nat.zero_le _, Nat.le_refl _, rfl, rfl, HF0, ?_, r_res3, ownNil _ _ _ _, ownNil _ _ _ _, B3, Nat.le_refl _, Nat.zero_le _, Nat.le_refl _, fun s hs => by cases hs⟩
   show _ = _
   rw [r_s3.out, ← HM.out]
   rfl
  case round =>
   obtain ⟨a, n, st, ao_v, L_v, cap_v, ao_p, L_p, cap_p, ha, hna, rfl, rfl, HF, r_s4, r_res4, o_v4, o_p4, B4, z4, hl2, hb2, HZ⟩ := hrel
   obtain ⟨W4, hW4⟩ : ∃ X, X = wr := ⟨_, rfl⟩
   subst hW4
   clear HF0 r_s3 r_res3
   have hLp : L_p ≤ st.b.length ∧ st.b.length ≤ L_p := by obtain ⟨a9, L9, c9, he, h1, h2⟩ := Mem.Own.form o_p4.out; injection he with _ he2 _; rw [bs_len] at h1 h2; omega
   have c_s4_3 : W4.cell? ⟨W2.heap.size, 3, none⟩ = some (.slice ao_p L_p cap_p) := row_at r_s4.out 3
   have hly := HLY.out
   have hlt2 : ((a : Int) < (60000 : Int)) ↔ a < ys.length := by omega
   clear hly
   by_cases hlt : a < ys.length
   ·
    have hl3 := hlt2.2 hlt
    have q2 := get_spec W4 _ ys (a : Int) (HV.out.later B4.out) HBY.out (by omega) (by omega) (by omega)
    obtain ⟨h, x, p, ok, hg⟩ : ∃ h x p ok, getC ys (a : Int) = (h, x, p, ok) := ⟨_, _, _, _, rfl⟩
    unfold GotC at q2
    rw [hg] at q2
    simp only at q2
    obtain ⟨S1, S3⟩ := open_step hlt hg HF.out
    have H1 : Hid _ := S1
    have H3 : Hid _ := S3
    have hx2 : x.length ≤ 200 := by
     have h9 := getC_len ys (a : Int)
     rw [hg] at h9
     exact h9
    clear S1 S3 HF hg hlt2
    go_wp2_with fail
    refine (q2).mono ?_
    rintro e W5 ⟨v_t, rfl, o_t5, b5⟩
    obtain ⟨ao_t, L_t, cap_t, rfl, hL_t, hM_t⟩ := o_t5.form
    have o_t5 : Hid (Own W5 W4.heap.size W5.heap.size 9 (.slice ao_t L_t cap_t) (ss x)) := o_t5
    clear hL_t hM_t
    have z5 : W4.heap.size ≤ W5.heap.size := b5.size
    have B5 : Hid (Below w.heap.size w W5) := B4.out.trans (b5.mono B4.out.size)
    have r_s5 : Hid (W5.heap[W2.heap.size]? = some (.cells #[.slice ao_v L_v cap_v, .int .i64 st.h.n, .string st.h.r, .slice ao_p L_p cap_p, .int .i64 st.s] 39 (0, 0))) := rowKeep r_s4.out b5
    have r_res5 : Hid (W5.heap[w.heap.size]? = some (.cells #[.slice none 0 0, .int .i64 0, .string ⟨#[]⟩, .slice none 0 0, .int .i64 0] 39 (0, 0))) := rowKeep r_res4.out b5
    have o_v5 : Hid (Own W5 (W3.heap.size) (W4.heap.size) 9 (.slice ao_v L_v cap_v) (ss st.l)) := Own.later o_v4.out b5 (by omega)
    have o_p5 : Hid (Own W5 (W3.heap.size) (W4.heap.size) 5 (.slice ao_p L_p cap_p) (bs st.b)) := Own.later o_p4.out b5 (by omega)
    have c_s5_0 : W5.cell? ⟨W2.heap.size, 0, none⟩ = some (.slice ao_v L_v cap_v) := row_at r_s5.out 0
    have c_s5_1 : W5.cell? ⟨W2.heap.size, 1, none⟩ = some (.int .i64 st.h.n) := row_at r_s5.out 1
    have c_s5_2 : W5.cell? ⟨W2.heap.size, 2, none⟩ = some (.string st.h.r) := row_at r_s5.out 2
    have c_s5_3 : W5.cell? ⟨W2.heap.size, 3, none⟩ = some (.slice ao_p L_p cap_p) := row_at r_s5.out 3
    have c_s5_4 : W5.cell? ⟨W2.heap.size, 4, none⟩ = some (.int .i64 st.s) := row_at r_s5.out 4
    clear r_s4 c_s4_3 r_res4 o_v4 o_p4
    clear q2
    have a_s5_0 : ∀ o, (W5.alloc o).cell? ⟨W2.heap.size, 0, none⟩ = some (.slice ao_v L_v cap_v) := fun o => keepR c_s5_0 ((Below.refl _ _).alloc (Nat.le_refl _) o)
    have a_s5_1 : ∀ o, (W5.alloc o).cell? ⟨W2.heap.size, 1, none⟩ = some (.int .i64 st.h.n) := fun o => keepR c_s5_1 ((Below.refl _ _).alloc (Nat.le_refl _) o)
    have a_s5_2 : ∀ o, (W5.alloc o).cell? ⟨W2.heap.size, 2, none⟩ = some (.string st.h.r) := fun o => keepR c_s5_2 ((Below.refl _ _).alloc (Nat.le_refl _) o)
    have a_s5_3 : ∀ o, (W5.alloc o).cell? ⟨W2.heap.size, 3, none⟩ = some (.slice ao_p L_p cap_p) := fun o => keepR c_s5_3 ((Below.refl _ _).alloc (Nat.le_refl _) o)
    have a_s5_4 : ∀ o, (W5.alloc o).cell? ⟨W2.heap.size, 4, none⟩ = some (.int .i64 st.s) := fun o => keepR c_s5_4 ((Below.refl _ _).alloc (Nat.le_refl _) o)
    obtain ⟨W6, HW6, b6, y6, hS6, r_h6⟩ : ∃ X, Hid ((W5.alloc (.cells #[.int .i64 h.n, .string h.r] 35)) = X) ∧ Below W5.heap.size W5 X ∧ W5.heap.size + 1 ≤ X.heap.size ∧ Hid (X.heap.size = W5.heap.size + 1) ∧ Hid (X.heap[W5.heap.size]? = some (.cells #[.int .i64 h.n, .string h.r] 35 (0, 0))) := ⟨_, rfl, ((Below.refl _ _).alloc (Nat.le_refl _) _), by simp, by show _ = _; simp, (by show _ = _; exact alloc_nth1_0 W5 _)⟩
    have B6 : Hid (Below w.heap.size w W6) := B5.out.trans (b6.mono B5.out.size)
    have r_s6 : Hid (W6.heap[W2.heap.size]? = some (.cells #[.slice ao_v L_v cap_v, .int .i64 st.h.n, .string st.h.r, .slice ao_p L_p cap_p, .int .i64 st.s] 39 (0, 0))) := rowKeep r_s5.out b6
    have r_res6 : Hid (W6.heap[w.heap.size]? = some (.cells #[.slice none 0 0, .int .i64 0, .string ⟨#[]⟩, .slice none 0 0, .int .i64 0] 39 (0, 0))) := rowKeep r_res5.out b6
    have o_v6 : Hid (Own W6 (W3.heap.size) (W4.heap.size) 9 (.slice ao_v L_v cap_v) (ss st.l)) := Own.later o_v5.out b6 (by omega)
    have o_p6 : Hid (Own W6 (W3.heap.size) (W4.heap.size) 5 (.slice ao_p L_p cap_p) (bs st.b)) := Own.later o_p5.out b6 (by omega)
    have o_t6 : Hid (Own W6 (W4.heap.size) (W5.heap.size) 9 (.slice ao_t L_t cap_t) (ss x)) := Own.later o_t5.out b6 (by omega)
    clear r_s5 c_s5_0 c_s5_1 c_s5_2 c_s5_3 c_s5_4 r_res5 o_v5 o_p5 o_t5
    cases ok
    ·
     have HN : Hid (R = (st, n)) := H1.out (by simp)
     have HLP : Hid ((L_p : Int) = (st.b.length : Int)) := by show _ = _; omega
     go_wp2_with ((try rw [HW6.out]); refine wpl_oneG rfl 3 _ _ rfl (W2.heap.size) 4 (.int .i64 (L_p : Int)) rfl rfl [.slice ao_v L_v cap_v, .int .i64 st.h.n, .string st.h.r, .slice ao_p L_p cap_p, .int .i64 st.s] 39 r_s6.out (Nat.le_of_ble_eq_true rfl) (by kernel_rfl) rfl [.slice ao_v L_v cap_v, .int .i64 st.h.n, .string st.h.r, .slice ao_p L_p cap_p, .int .i64 (L_p : Int)] rfl ?_)
     intro W7 r_s7 g7
     clear a_s5_0 a_s5_1 a_s5_2 a_s5_3 a_s5_4
     have r_s7 : Hid (W7.heap[W2.heap.size]? = some (.cells #[.slice ao_v L_v cap_v, .int .i64 st.h.n, .string st.h.r, .slice ao_p L_p cap_p, .int .i64 (L_p : Int)] 39 (0, 0))) := r_s7
     have z7 : W6.heap.size ≤ W7.heap.size := g7.size
     have B7 : Hid (Below w.heap.size w W7) := belowGro B6.out g7 B6.out.size (fun k9 h9 => by injection h9 with h9; have := B6.out.size; omega)
     have r_res7 : Hid (W7.heap[w.heap.size]? = some (.cells #[.slice none 0 0, .int .i64 0, .string ⟨#[]⟩, .slice none 0 0, .int .i64 0] 39 (0, 0))) := rowGro r_res6.out g7 (fun h9 => by injection h9 with h9; omega)
     have o_v7 : Hid (Own W7 (W3.heap.size) (W4.heap.size) 9 (.slice ao_v L_v cap_v) (ss st.l)) := Own.gro o_v6.out g7 (fun k9 h9 e9 => Own.neRow o_v6.out r_s6.out (by decide) (h9.trans e9.symm))
     have o_p7 : Hid (Own W7 (W3.heap.size) (W4.heap.size) 5 (.slice ao_p L_p cap_p) (bs st.b)) := Own.gro o_p6.out g7 (fun k9 h9 e9 => Own.neRow o_p6.out r_s6.out (by decide) (h9.trans e9.symm))
     clear r_res6 r_h6 o_v6 o_p6 o_t6
     clear r_s6
     clear g7
     go_wp2_with (first | (refine wpList_load_row rfl 39 _ rfl (W2.heap.size) rfl 39 (sc (.slice ao_v L_v cap_v) st.h (.slice ao_p L_p cap_p) (L_p : Int)) (0, 0) _ r_s7.out Tryz.underlying39 rfl (sizeS _ _ _ _) ?_) | (refine wpList_store_row rfl 39 _ _ rfl (w.heap.size) (sc (.slice ao_v L_v cap_v) st.h (.slice ao_p L_p cap_p) (L_p : Int)) rfl rfl 39 _ r_res7.out (sizeS _ _ _ _) rfl (oneS _ _ rfl rfl) ?_))
     refine bodyPost_ret (res_row_tmp rfl _ _ (w.heap.size) 39 (sc (.slice ao_v L_v cap_v) st.h (.slice ao_p L_p cap_p) (L_p : Int)) (0, 0) _ rfl (setRow_heap _ _ _ _ _ (0, 0) r_res7.out) Tryz.underlying39 rfl (sizeS _ _ _ _)) rfl ⟨.slice ao_v L_v cap_v, .slice ao_p L_p cap_p, by rw [HN.out]; simp only [sc]; rw [← HLP.out]; rfl, ?_, ?_, below_setRow B7.out (by omega) _⟩
     ·
      rw [HN.out]
      exact (Own.setRow o_v7.out _ (by omega)).mono (by omega) (by rw [size_setRow]; omega)
     ·
      rw [HN.out]
      exact (Own.setRow o_p7.out _ (by omega)).mono (by omega) (by rw [size_setRow]; omega)
    ·
     obtain ⟨q, hq0, hq1, hq2, hq3, hq4, hq5, hq6, hq7⟩ := H3.out HBY.out (by first | exact rfl | trivial)
     subst hq0
     have HQ5 : Hid (∀ s ∈ x, s.size ≤ 1000000000) := hq5
     have HQ7 : Hid _ := hq7
     clear hq5 hq7
     have q4 : ∀ W v1 v2 v3 v4, Sl W v1 (ss st.l) → Sl W v2 (bs st.b) → Sh W v3 t → Sl W v4 (ss x) → _ := fun W v1 v2 v3 v4 h1 h2 h3 h4 => commit1_spec W v1 v2 v3 v4 st t h x h1 h2 h3 h4 (by omega) (by omega) htl (by omega) (fun s hs => by have := HZ.out s hs; omega) (fun s hs => by have := HQ5.out s hs; omega) (by omega) (by omega)
     obtain ⟨C, hC⟩ : ∃ C, commit1 st t h x = C := ⟨_, rfl⟩
     simp only [hC] at q4
     have HC : Hid (commit1 st t h x = C) := hC
     clear hC
     obtain ⟨st2, code⟩ := C
     simp only at q4
     go_wp2_with fail
     rw [HW6.out]
     clear a_s5_0 a_s5_1 a_s5_2 a_s5_3 a_s5_4
     refine (q4 W6 _ _ _ _ o_v6.out.sl o_p6.out.sl (HT.out.later B6.out) o_t6.out.sl).mono ?_
     rintro e W7 ⟨v_n, v_y, rfl, o_n7, o_y7, b7⟩
     obtain ⟨ao_n, L_n, cap_n, rfl, hL_n, hM_n⟩ := o_n7.form
     have o_n7 : Hid (Own W7 W6.heap.size W7.heap.size 9 (.slice ao_n L_n cap_n) (ss st2.l)) := o_n7
     clear hL_n hM_n
     have z7 : W6.heap.size ≤ W7.heap.size := b7.size
     have B7 : Hid (Below w.heap.size w W7) := B6.out.trans (b7.mono B6.out.size)
     have r_s7 : Hid (W7.heap[W2.heap.size]? = some (.cells #[.slice ao_v L_v cap_v, .int .i64 st.h.n, .string st.h.r, .slice ao_p L_p cap_p, .int .i64 st.s] 39 (0, 0))) := rowKeep r_s6.out b7
     have r_res7 : Hid (W7.heap[w.heap.size]? = some (.cells #[.slice none 0 0, .int .i64 0, .string ⟨#[]⟩, .slice none 0 0, .int .i64 0] 39 (0, 0))) := rowKeep r_res6.out b7
     have o_v7 : Hid (Own W7 (W3.heap.size) (W4.heap.size) 9 (.slice ao_v L_v cap_v) (ss st.l)) := Own.later o_v6.out b7 (by omega)
     have o_p7 : Hid (Own W7 (W3.heap.size) (W4.heap.size) 5 (.slice ao_p L_p cap_p) (bs st.b)) := Own.later o_p6.out b7 (by omega)
     have c_s7_3 : W7.cell? ⟨W2.heap.size, 3, none⟩ = some (.slice ao_p L_p cap_p) := row_at r_s7.out 3
     clear r_s6 r_res6 r_h6 o_v6 o_p6 o_t6
     obtain ⟨ao_y, L_y, cap_y, rfl, _, _⟩ := o_y7.form
     have o_y7 : Hid (Own W7 W6.heap.size W7.heap.size 5 (.slice ao_y L_y cap_y) (bs st2.b)) := o_y7
     clear q4
     have a_s7_3 : ∀ o, (W7.alloc o).cell? ⟨W2.heap.size, 3, none⟩ = some (.slice ao_p L_p cap_p) := fun o => keepR c_s7_3 ((Below.refl _ _).alloc (Nat.le_refl _) o)
     obtain ⟨W8, HW8, b8, y8, hS8, r_x8⟩ : ∃ X, Hid ((W7.alloc (.cells #[.slice ao_n L_n cap_n, .int .i64 st2.h.n, .string st2.h.r, .slice ao_y L_y cap_y, .int .i64 st2.s] 39)) = X) ∧ Below W7.heap.size W7 X ∧ W7.heap.size + 1 ≤ X.heap.size ∧ Hid (X.heap.size = W7.heap.size + 1) ∧ Hid (X.heap[W7.heap.size]? = some (.cells #[.slice ao_n L_n cap_n, .int .i64 st2.h.n, .string st2.h.r, .slice ao_y L_y cap_y, .int .i64 st2.s] 39 (0, 0))) := ⟨_, rfl, ((Below.refl _ _).alloc (Nat.le_refl _) _), by simp, by show _ = _; simp, (by show _ = _; exact alloc_nth1_0 W7 _)⟩
     have B8 : Hid (Below w.heap.size w W8) := B7.out.trans (b8.mono B7.out.size)
     have r_s8 : Hid (W8.heap[W2.heap.size]? = some (.cells #[.slice ao_v L_v cap_v, .int .i64 st.h.n, .string st.h.r, .slice ao_p L_p cap_p, .int .i64 st.s] 39 (0, 0))) := rowKeep r_s7.out b8
     have r_res8 : Hid (W8.heap[w.heap.size]? = some (.cells #[.slice none 0 0, .int .i64 0, .string ⟨#[]⟩, .slice none 0 0, .int .i64 0] 39 (0, 0))) := rowKeep r_res7.out b8
     have o_v8 : Hid (Own W8 (W3.heap.size) (W4.heap.size) 9 (.slice ao_v L_v cap_v) (ss st.l)) := Own.later o_v7.out b8 (by omega)
     have o_p8 : Hid (Own W8 (W3.heap.size) (W4.heap.size) 5 (.slice ao_p L_p cap_p) (bs st.b)) := Own.later o_p7.out b8 (by omega)
     have o_n8 : Hid (Own W8 (W6.heap.size) (W7.heap.size) 9 (.slice ao_n L_n cap_n) (ss st2.l)) := Own.later o_n7.out b8 (by omega)
     have o_y8 : Hid (Own W8 (W6.heap.size) (W7.heap.size) 5 (.slice ao_y L_y cap_y) (bs st2.b)) := Own.later o_y7.out b8 (by omega)
     clear r_s7 c_s7_3 r_res7 o_v7 o_p7 o_n7 o_y7
     by_cases hcode : code = 0
     ·
      subst hcode
      obtain ⟨f9, hf9, hF9⟩ := HQ7.out (by rw [HC.out])
      rw [HC.out] at hF9
      have HQ4 : Hid (∃ f, ys.length - q ≤ f ∧ openF f t ys q st2 (n + 1) = R) := ⟨f9, hf9, hF9⟩
      clear hF9 hf9
      obtain ⟨c1, c2, c3, c4, c5, c6, c7⟩ := commit1_good (st := st) (t := t) (h := h) (x := x) (by rw [HC.out])
      rw [HC.out] at c7
      simp only at c7
      have hl5 : st2.l.length ≤ 200 := by rw [c7]; exact c5
      have hb5 : st2.b.length ≤ q := by rw [c7]; simp only [List.length_append]; omega
      have HZ5 : Hid (∀ s ∈ st2.l, s.size ≤ 1000000000) := by show ∀ s ∈ st2.l, s.size ≤ 1000000000; rw [c7]; exact size_app HZ.out HQ5.out
      clear c1 c2 c3 c4 c5 c6 c7
      go_wp2_with ((try rw [HW8.out]); refine wpl_partG rfl 39 _ _ rfl (W2.heap.size) 0 (sc (.slice ao_n L_n cap_n) st2.h (.slice ao_y L_y cap_y) st2.s) rfl rfl [.slice ao_v L_v cap_v, .int .i64 st.h.n, .string st.h.r, .slice ao_p L_p cap_p, .int .i64 st.s] 39 r_s8.out (Nat.le_of_ble_eq_true rfl) (sizeS _ _ _ _) (oneS _ _ rfl rfl) [.slice ao_n L_n cap_n, .int .i64 st2.h.n, .string st2.h.r, .slice ao_y L_y cap_y, .int .i64 st2.s] rfl ?_)
      intro W9 r_s9 g9
      clear a_s7_3
      have r_s9 : Hid (W9.heap[W2.heap.size]? = some (.cells #[.slice ao_n L_n cap_n, .int .i64 st2.h.n, .string st2.h.r, .slice ao_y L_y cap_y, .int .i64 st2.s] 39 (0, 0))) := r_s9
      have z9 : W8.heap.size ≤ W9.heap.size := g9.size
      have B9 : Hid (Below w.heap.size w W9) := belowGro B8.out g9 B8.out.size (fun k9 h9 => by injection h9 with h9; have := B8.out.size; omega)
      have r_res9 : Hid (W9.heap[w.heap.size]? = some (.cells #[.slice none 0 0, .int .i64 0, .string ⟨#[]⟩, .slice none 0 0, .int .i64 0] 39 (0, 0))) := rowGro r_res8.out g9 (fun h9 => by injection h9 with h9; omega)
      have o_n9 : Hid (Own W9 (W6.heap.size) (W7.heap.size) 9 (.slice ao_n L_n cap_n) (ss st2.l)) := Own.gro o_n8.out g9 (fun k9 h9 e9 => Own.neRow o_n8.out r_s8.out (by decide) (h9.trans e9.symm))
      have o_y9 : Hid (Own W9 (W6.heap.size) (W7.heap.size) 5 (.slice ao_y L_y cap_y) (bs st2.b)) := Own.gro o_y8.out g9 (fun k9 h9 e9 => Own.neRow o_y8.out r_s8.out (by decide) (h9.trans e9.symm))
      clear r_res8 r_x8 o_v8 o_p8 o_n8 o_y8
      clear r_s8
      clear g9
      have wn : IntKind.i64.wrap ((n : Int) + 1) = ((n + 1 : Nat) : Int) := by rw [IntKind.wrap_i64]; omega
      go_wp2
      go_roundw
      case rel => exact ⟨q, n + 1, st2, ao_n, L_n, cap_n, ao_y, L_y, cap_y, hq2, by omega, by go_num, rfl, HQ4, r_s9, r_res9, Own.mono o_n9.out (by omega) (by omega), Own.mono o_y9.out (by omega) (by omega), B9, by omega, hl5, hb5, HZ5⟩
      case measure => simp [intOf]; omega
     ·
      have cn : (code == 0) = false := by rw [beq_eq_false_iff_ne]; exact hcode
      have cm : (code != 0) = true := by rw [bne, cn]; rfl
      have HN : Hid (R = (st, n)) := H1.out (fun h9 => hcode (by have := h9.2; rw [HC.out] at this; exact this))
      have HLP : Hid ((L_p : Int) = (st.b.length : Int)) := by show _ = _; omega
      go_wp2_with ((try rw [HW8.out]); refine wpl_oneG rfl 3 _ _ rfl (W2.heap.size) 4 (.int .i64 (L_p : Int)) rfl rfl [.slice ao_v L_v cap_v, .int .i64 st.h.n, .string st.h.r, .slice ao_p L_p cap_p, .int .i64 st.s] 39 r_s8.out (Nat.le_of_ble_eq_true rfl) (by kernel_rfl) rfl [.slice ao_v L_v cap_v, .int .i64 st.h.n, .string st.h.r, .slice ao_p L_p cap_p, .int .i64 (L_p : Int)] rfl ?_)
      intro W9 r_s9 g9
      clear a_s7_3
      have r_s9 : Hid (W9.heap[W2.heap.size]? = some (.cells #[.slice ao_v L_v cap_v, .int .i64 st.h.n, .string st.h.r, .slice ao_p L_p cap_p, .int .i64 (L_p : Int)] 39 (0, 0))) := r_s9
      have z9 : W8.heap.size ≤ W9.heap.size := g9.size
      have B9 : Hid (Below w.heap.size w W9) := belowGro B8.out g9 B8.out.size (fun k9 h9 => by injection h9 with h9; have := B8.out.size; omega)
      have r_res9 : Hid (W9.heap[w.heap.size]? = some (.cells #[.slice none 0 0, .int .i64 0, .string ⟨#[]⟩, .slice none 0 0, .int .i64 0] 39 (0, 0))) := rowGro r_res8.out g9 (fun h9 => by injection h9 with h9; omega)
      have o_v9 : Hid (Own W9 (W3.heap.size) (W4.heap.size) 9 (.slice ao_v L_v cap_v) (ss st.l)) := Own.gro o_v8.out g9 (fun k9 h9 e9 => Own.neRow o_v8.out r_s8.out (by decide) (h9.trans e9.symm))
      have o_p9 : Hid (Own W9 (W3.heap.size) (W4.heap.size) 5 (.slice ao_p L_p cap_p) (bs st.b)) := Own.gro o_p8.out g9 (fun k9 h9 e9 => Own.neRow o_p8.out r_s8.out (by decide) (h9.trans e9.symm))
      clear r_res8 r_x8 o_v8 o_p8 o_n8 o_y8
      clear r_s8
      clear g9
      go_wp2_with (first | (refine wpList_load_row rfl 39 _ rfl (W2.heap.size) rfl 39 (sc (.slice ao_v L_v cap_v) st.h (.slice ao_p L_p cap_p) (L_p : Int)) (0, 0) _ r_s9.out Tryz.underlying39 rfl (sizeS _ _ _ _) ?_) | (refine wpList_store_row rfl 39 _ _ rfl (w.heap.size) (sc (.slice ao_v L_v cap_v) st.h (.slice ao_p L_p cap_p) (L_p : Int)) rfl rfl 39 _ r_res9.out (sizeS _ _ _ _) rfl (oneS _ _ rfl rfl) ?_))
      refine bodyPost_ret (res_row_tmp rfl _ _ (w.heap.size) 39 (sc (.slice ao_v L_v cap_v) st.h (.slice ao_p L_p cap_p) (L_p : Int)) (0, 0) _ rfl (setRow_heap _ _ _ _ _ (0, 0) r_res9.out) Tryz.underlying39 rfl (sizeS _ _ _ _)) rfl ⟨.slice ao_v L_v cap_v, .slice ao_p L_p cap_p, by rw [HN.out]; simp only [sc]; rw [← HLP.out]; rfl, ?_, ?_, below_setRow B9.out (by omega) _⟩
      ·
       rw [HN.out]
       exact (Own.setRow o_v9.out _ (by omega)).mono (by omega) (by rw [size_setRow]; omega)
      ·
       rw [HN.out]
       exact (Own.setRow o_p9.out _ (by omega)).mono (by omega) (by rw [size_setRow]; omega)
   ·
    have hl3 : ¬ ((a : Int) < (60000 : Int)) := fun h9 => hlt (hlt2.1 h9)
    clear hlt2
    have HN : Hid (R = (st, n)) := open_end hlt HF.out
    have HLP : Hid ((L_p : Int) = (st.b.length : Int)) := by show _ = _; omega
    go_wp2_with (refine wpl_oneG rfl 3 _ _ rfl (W2.heap.size) 4 (.int .i64 (L_p : Int)) rfl rfl [.slice ao_v L_v cap_v, .int .i64 st.h.n, .string st.h.r, .slice ao_p L_p cap_p, .int .i64 st.s] 39 r_s4.out (Nat.le_of_ble_eq_true rfl) (by kernel_rfl) rfl [.slice ao_v L_v cap_v, .int .i64 st.h.n, .string st.h.r, .slice ao_p L_p cap_p, .int .i64 (L_p : Int)] rfl ?_)
    intro W5 r_s5 g5
    have r_s5 : Hid (W5.heap[W2.heap.size]? = some (.cells #[.slice ao_v L_v cap_v, .int .i64 st.h.n, .string st.h.r, .slice ao_p L_p cap_p, .int .i64 (L_p : Int)] 39 (0, 0))) := r_s5
    have z5 : W4.heap.size ≤ W5.heap.size := g5.size
    have B5 : Hid (Below w.heap.size w W5) := belowGro B4.out g5 B4.out.size (fun k9 h9 => by injection h9 with h9; have := B4.out.size; omega)
    have r_res5 : Hid (W5.heap[w.heap.size]? = some (.cells #[.slice none 0 0, .int .i64 0, .string ⟨#[]⟩, .slice none 0 0, .int .i64 0] 39 (0, 0))) := rowGro r_res4.out g5 (fun h9 => by injection h9 with h9; omega)
    have o_v5 : Hid (Own W5 (W3.heap.size) (W4.heap.size) 9 (.slice ao_v L_v cap_v) (ss st.l)) := Own.gro o_v4.out g5 (fun k9 h9 e9 => Own.neRow o_v4.out r_s4.out (by decide) (h9.trans e9.symm))
    have o_p5 : Hid (Own W5 (W3.heap.size) (W4.heap.size) 5 (.slice ao_p L_p cap_p) (bs st.b)) := Own.gro o_p4.out g5 (fun k9 h9 e9 => Own.neRow o_p4.out r_s4.out (by decide) (h9.trans e9.symm))
    clear r_res4 o_v4 o_p4
    clear r_s4 c_s4_3
    clear g5
    go_wp2_with (first | (refine wpList_load_row rfl 39 _ rfl (W2.heap.size) rfl 39 (sc (.slice ao_v L_v cap_v) st.h (.slice ao_p L_p cap_p) (L_p : Int)) (0, 0) _ r_s5.out Tryz.underlying39 rfl (sizeS _ _ _ _) ?_) | (refine wpList_store_row rfl 39 _ _ rfl (w.heap.size) (sc (.slice ao_v L_v cap_v) st.h (.slice ao_p L_p cap_p) (L_p : Int)) rfl rfl 39 _ r_res5.out (sizeS _ _ _ _) rfl (oneS _ _ rfl rfl) ?_))
    refine bodyPost_ret (res_row_tmp rfl _ _ (w.heap.size) 39 (sc (.slice ao_v L_v cap_v) st.h (.slice ao_p L_p cap_p) (L_p : Int)) (0, 0) _ rfl (setRow_heap _ _ _ _ _ (0, 0) r_res5.out) Tryz.underlying39 rfl (sizeS _ _ _ _)) rfl ⟨.slice ao_v L_v cap_v, .slice ao_p L_p cap_p, by rw [HN.out]; simp only [sc]; rw [← HLP.out]; rfl, ?_, ?_, below_setRow B5.out (by omega) _⟩
    ·
     rw [HN.out]
     exact (Own.setRow o_v5.out _ (by omega)).mono (by omega) (by rw [size_setRow]; omega)
    ·
     rw [HN.out]
     exact (Own.setRow o_p5.out _ (by omega)).mono (by omega) (by rw [size_setRow]; omega)
 ·
  have d6 : ¬ (60000 : Int) < (xs.length : Int) := by omega
  have eY : xs = ys := by rw [← HYS.out, List.take_of_length_le (by omega)]
  have HV : Hid (Sl w (.slice ao0 xs.length cap0) (bs ys)) := by show Sl _ _ _; rw [← eY]; exact HS.out
  have hLY : (xs.length : Int) = (ys.length : Int) := by rw [eY]
  have HLY : Hid ((xs.length : Int) = (ys.length : Int)) := hLY
  clear eY hLY
  go_wp2_with fail
  rw [HW3.out]
  go_loopw [7, 8] (fun nv iv wr => ∃ (a n : Nat) (st : Sto) (ao : Option Addr) (L cap : Nat) (ao' : Option Addr) (L' cap' : Nat), a ≤ ys.length ∧ n ≤ a ∧ nv = .int .i64 (n : Int) ∧ iv = .int .i64 (a : Int) ∧ Hid (∃ f, ys.length - a ≤ f ∧ openF f t ys a st n = R) ∧ Hid (wr.heap[W2.heap.size]? = some (.cells #[.slice ao L cap, .int .i64 st.h.n, .string st.h.r, .slice ao' L' cap', .int .i64 st.s] 39 (0, 0))) ∧ Hid (wr.heap[w.heap.size]? = some (.cells #[.slice none 0 0, .int .i64 0, .string ⟨#[]⟩, .slice none 0 0, .int .i64 0] 39 (0, 0))) ∧ Hid (Own wr W3.heap.size wr.heap.size 9 (.slice ao L cap) (ss st.l)) ∧ Hid (Own wr W3.heap.size wr.heap.size 5 (.slice ao' L' cap') (bs st.b)) ∧ Hid (Below w.heap.size w wr) ∧ W3.heap.size ≤ wr.heap.size ∧ st.l.length ≤ 200 ∧ st.b.length ≤ a ∧ Hid (∀ s ∈ st.l, s.size ≤ 1000000000)) (fun _ iv _ => ys.length - (intOf iv).toNat)
  case atStart =>
   refine ⟨0, 0, new12, none, 0, 0, none, 0, 0, Nat.zero_le _, Nat.le_refl _, rfl, rfl, HF0, ?_, r_res3, ownNil _ _ _ _, ownNil _ _ _ _, B3, Nat.le_refl _, Nat.zero_le _, Nat.le_refl _, fun s hs => by cases hs⟩
   show _ = _
   rw [r_s3.out, ← HM.out]
   rfl
  case round =>
   obtain ⟨a, n, st, ao_v, L_v, cap_v, ao_p, L_p, cap_p, ha, hna, rfl, rfl, HF, r_s4, r_res4, o_v4, o_p4, B4, z4, hl2, hb2, HZ⟩ := hrel
   obtain ⟨W4, hW4⟩ : ∃ X, X = wr := ⟨_, rfl⟩
   subst hW4
   clear HF0 r_s3 r_res3
   have hLp : L_p ≤ st.b.length ∧ st.b.length ≤ L_p := by obtain ⟨a9, L9, c9, he, h1, h2⟩ := Mem.Own.form o_p4.out; injection he with _ he2 _; rw [bs_len] at h1 h2; omega
   have c_s4_3 : W4.cell? ⟨W2.heap.size, 3, none⟩ = some (.slice ao_p L_p cap_p) := row_at r_s4.out 3
   have hly := HLY.out
   have hlt2 : ((a : Int) < ((xs.length : Int) : Int)) ↔ a < ys.length := by omega
   clear hly
   by_cases hlt : a < ys.length
   ·
    have hl3 := hlt2.2 hlt
    have q2 := get_spec W4 _ ys (a : Int) (HV.out.later B4.out) HBY.out (by omega) (by omega) (by omega)
    obtain ⟨h, x, p, ok, hg⟩ : ∃ h x p ok, getC ys (a : Int) = (h, x, p, ok) := ⟨_, _, _, _, rfl⟩
    unfold GotC at q2
    rw [hg] at q2
    simp only at q2
    obtain ⟨S1, S3⟩ := open_step hlt hg HF.out
    have H1 : Hid _ := S1
    have H3 : Hid _ := S3
    have hx2 : x.length ≤ 200 := by
     have h9 := getC_len ys (a : Int)
     rw [hg] at h9
     exact h9
    clear S1 S3 HF hg hlt2
    go_wp2_with fail
    refine (q2).mono ?_
    rintro e W5 ⟨v_t, rfl, o_t5, b5⟩
    obtain ⟨ao_t, L_t, cap_t, rfl, hL_t, hM_t⟩ := o_t5.form
    have o_t5 : Hid (Own W5 W4.heap.size W5.heap.size 9 (.slice ao_t L_t cap_t) (ss x)) := o_t5
    clear hL_t hM_t
    have z5 : W4.heap.size ≤ W5.heap.size := b5.size
    have B5 : Hid (Below w.heap.size w W5) := B4.out.trans (b5.mono B4.out.size)
    have r_s5 : Hid (W5.heap[W2.heap.size]? = some (.cells #[.slice ao_v L_v cap_v, .int .i64 st.h.n, .string st.h.r, .slice ao_p L_p cap_p, .int .i64 st.s] 39 (0, 0))) := rowKeep r_s4.out b5
    have r_res5 : Hid (W5.heap[w.heap.size]? = some (.cells #[.slice none 0 0, .int .i64 0, .string ⟨#[]⟩, .slice none 0 0, .int .i64 0] 39 (0, 0))) := rowKeep r_res4.out b5
    have o_v5 : Hid (Own W5 (W3.heap.size) (W4.heap.size) 9 (.slice ao_v L_v cap_v) (ss st.l)) := Own.later o_v4.out b5 (by omega)
    have o_p5 : Hid (Own W5 (W3.heap.size) (W4.heap.size) 5 (.slice ao_p L_p cap_p) (bs st.b)) := Own.later o_p4.out b5 (by omega)
    have c_s5_0 : W5.cell? ⟨W2.heap.size, 0, none⟩ = some (.slice ao_v L_v cap_v) := row_at r_s5.out 0
    have c_s5_1 : W5.cell? ⟨W2.heap.size, 1, none⟩ = some (.int .i64 st.h.n) := row_at r_s5.out 1
    have c_s5_2 : W5.cell? ⟨W2.heap.size, 2, none⟩ = some (.string st.h.r) := row_at r_s5.out 2
    have c_s5_3 : W5.cell? ⟨W2.heap.size, 3, none⟩ = some (.slice ao_p L_p cap_p) := row_at r_s5.out 3
    have c_s5_4 : W5.cell? ⟨W2.heap.size, 4, none⟩ = some (.int .i64 st.s) := row_at r_s5.out 4
    clear r_s4 c_s4_3 r_res4 o_v4 o_p4
    clear q2
    have a_s5_0 : ∀ o, (W5.alloc o).cell? ⟨W2.heap.size, 0, none⟩ = some (.slice ao_v L_v cap_v) := fun o => keepR c_s5_0 ((Below.refl _ _).alloc (Nat.le_refl _) o)
    have a_s5_1 : ∀ o, (W5.alloc o).cell? ⟨W2.heap.size, 1, none⟩ = some (.int .i64 st.h.n) := fun o => keepR c_s5_1 ((Below.refl _ _).alloc (Nat.le_refl _) o)
    have a_s5_2 : ∀ o, (W5.alloc o).cell? ⟨W2.heap.size, 2, none⟩ = some (.string st.h.r) := fun o => keepR c_s5_2 ((Below.refl _ _).alloc (Nat.le_refl _) o)
    have a_s5_3 : ∀ o, (W5.alloc o).cell? ⟨W2.heap.size, 3, none⟩ = some (.slice ao_p L_p cap_p) := fun o => keepR c_s5_3 ((Below.refl _ _).alloc (Nat.le_refl _) o)
    have a_s5_4 : ∀ o, (W5.alloc o).cell? ⟨W2.heap.size, 4, none⟩ = some (.int .i64 st.s) := fun o => keepR c_s5_4 ((Below.refl _ _).alloc (Nat.le_refl _) o)
    obtain ⟨W6, HW6, b6, y6, hS6, r_h6⟩ : ∃ X, Hid ((W5.alloc (.cells #[.int .i64 h.n, .string h.r] 35)) = X) ∧ Below W5.heap.size W5 X ∧ W5.heap.size + 1 ≤ X.heap.size ∧ Hid (X.heap.size = W5.heap.size + 1) ∧ Hid (X.heap[W5.heap.size]? = some (.cells #[.int .i64 h.n, .string h.r] 35 (0, 0))) := ⟨_, rfl, ((Below.refl _ _).alloc (Nat.le_refl _) _), by simp, by show _ = _; simp, (by show _ = _; exact alloc_nth1_0 W5 _)⟩
    have B6 : Hid (Below w.heap.size w W6) := B5.out.trans (b6.mono B5.out.size)
    have r_s6 : Hid (W6.heap[W2.heap.size]? = some (.cells #[.slice ao_v L_v cap_v, .int .i64 st.h.n, .string st.h.r, .slice ao_p L_p cap_p, .int .i64 st.s] 39 (0, 0))) := rowKeep r_s5.out b6
    have r_res6 : Hid (W6.heap[w.heap.size]? = some (.cells #[.slice none 0 0, .int .i64 0, .string ⟨#[]⟩, .slice none 0 0, .int .i64 0] 39 (0, 0))) := rowKeep r_res5.out b6
    have o_v6 : Hid (Own W6 (W3.heap.size) (W4.heap.size) 9 (.slice ao_v L_v cap_v) (ss st.l)) := Own.later o_v5.out b6 (by omega)
    have o_p6 : Hid (Own W6 (W3.heap.size) (W4.heap.size) 5 (.slice ao_p L_p cap_p) (bs st.b)) := Own.later o_p5.out b6 (by omega)
    have o_t6 : Hid (Own W6 (W4.heap.size) (W5.heap.size) 9 (.slice ao_t L_t cap_t) (ss x)) := Own.later o_t5.out b6 (by omega)
    clear r_s5 c_s5_0 c_s5_1 c_s5_2 c_s5_3 c_s5_4 r_res5 o_v5 o_p5 o_t5
    cases ok
    ·
     have HN : Hid (R = (st, n)) := H1.out (by simp)
     have HLP : Hid ((L_p : Int) = (st.b.length : Int)) := by show _ = _; omega
     go_wp2_with ((try rw [HW6.out]); refine wpl_oneG rfl 3 _ _ rfl (W2.heap.size) 4 (.int .i64 (L_p : Int)) rfl rfl [.slice ao_v L_v cap_v, .int .i64 st.h.n, .string st.h.r, .slice ao_p L_p cap_p, .int .i64 st.s] 39 r_s6.out (Nat.le_of_ble_eq_true rfl) (by kernel_rfl) rfl [.slice ao_v L_v cap_v, .int .i64 st.h.n, .string st.h.r, .slice ao_p L_p cap_p, .int .i64 (L_p : Int)] rfl ?_)
     intro W7 r_s7 g7
     clear a_s5_0 a_s5_1 a_s5_2 a_s5_3 a_s5_4
     have r_s7 : Hid (W7.heap[W2.heap.size]? = some (.cells #[.slice ao_v L_v cap_v, .int .i64 st.h.n, .string st.h.r, .slice ao_p L_p cap_p, .int .i64 (L_p : Int)] 39 (0, 0))) := r_s7
     have z7 : W6.heap.size ≤ W7.heap.size := g7.size
     have B7 : Hid (Below w.heap.size w W7) := belowGro B6.out g7 B6.out.size (fun k9 h9 => by injection h9 with h9; have := B6.out.size; omega)
     have r_res7 : Hid (W7.heap[w.heap.size]? = some (.cells #[.slice none 0 0, .int .i64 0, .string ⟨#[]⟩, .slice none 0 0, .int .i64 0] 39 (0, 0))) := rowGro r_res6.out g7 (fun h9 => by injection h9 with h9; omega)
     have o_v7 : Hid (Own W7 (W3.heap.size) (W4.heap.size) 9 (.slice ao_v L_v cap_v) (ss st.l)) := Own.gro o_v6.out g7 (fun k9 h9 e9 => Own.neRow o_v6.out r_s6.out (by decide) (h9.trans e9.symm))
     have o_p7 : Hid (Own W7 (W3.heap.size) (W4.heap.size) 5 (.slice ao_p L_p cap_p) (bs st.b)) := Own.gro o_p6.out g7 (fun k9 h9 e9 => Own.neRow o_p6.out r_s6.out (by decide) (h9.trans e9.symm))
     clear r_res6 r_h6 o_v6 o_p6 o_t6
     clear r_s6
     clear g7
     go_wp2_with (first | (refine wpList_load_row rfl 39 _ rfl (W2.heap.size) rfl 39 (sc (.slice ao_v L_v cap_v) st.h (.slice ao_p L_p cap_p) (L_p : Int)) (0, 0) _ r_s7.out Tryz.underlying39 rfl (sizeS _ _ _ _) ?_) | (refine wpList_store_row rfl 39 _ _ rfl (w.heap.size) (sc (.slice ao_v L_v cap_v) st.h (.slice ao_p L_p cap_p) (L_p : Int)) rfl rfl 39 _ r_res7.out (sizeS _ _ _ _) rfl (oneS _ _ rfl rfl) ?_))
     refine bodyPost_ret (res_row_tmp rfl _ _ (w.heap.size) 39 (sc (.slice ao_v L_v cap_v) st.h (.slice ao_p L_p cap_p) (L_p : Int)) (0, 0) _ rfl (setRow_heap _ _ _ _ _ (0, 0) r_res7.out) Tryz.underlying39 rfl (sizeS _ _ _ _)) rfl ⟨.slice ao_v L_v cap_v, .slice ao_p L_p cap_p, by rw [HN.out]; simp only [sc]; rw [← HLP.out]; rfl, ?_, ?_, below_setRow B7.out (by omega) _⟩
     ·
      rw [HN.out]
      exact (Own.setRow o_v7.out _ (by omega)).mono (by omega) (by rw [size_setRow]; omega)
     ·
      rw [HN.out]
      exact (Own.setRow o_p7.out _ (by omega)).mono (by omega) (by rw [size_setRow]; omega)
    ·
     obtain ⟨q, hq0, hq1, hq2, hq3, hq4, hq5, hq6, hq7⟩ := H3.out HBY.out (by first | exact rfl | trivial)
     subst hq0
     have HQ5 : Hid (∀ s ∈ x, s.size ≤ 1000000000) := hq5
     have HQ7 : Hid _ := hq7
     clear hq5 hq7
     have q4 : ∀ W v1 v2 v3 v4, Sl W v1 (ss st.l) → Sl W v2 (bs st.b) → Sh W v3 t → Sl W v4 (ss x) → _ := fun W v1 v2 v3 v4 h1 h2 h3 h4 => commit1_spec W v1 v2 v3 v4 st t h x h1 h2 h3 h4 (by omega) (by omega) htl (by omega) (fun s hs => by have := HZ.out s hs; omega) (fun s hs => by have := HQ5.out s hs; omega) (by omega) (by omega)
     obtain ⟨C, hC⟩ : ∃ C, commit1 st t h x = C := ⟨_, rfl⟩
     simp only [hC] at q4
     have HC : Hid (commit1 st t h x = C) := hC
     clear hC
     obtain ⟨st2, code⟩ := C
     simp only at q4
     go_wp2_with fail
     rw [HW6.out]
     clear a_s5_0 a_s5_1 a_s5_2 a_s5_3 a_s5_4
     refine (q4 W6 _ _ _ _ o_v6.out.sl o_p6.out.sl (HT.out.later B6.out) o_t6.out.sl).mono ?_
     rintro e W7 ⟨v_n, v_y, rfl, o_n7, o_y7, b7⟩
     obtain ⟨ao_n, L_n, cap_n, rfl, hL_n, hM_n⟩ := o_n7.form
     have o_n7 : Hid (Own W7 W6.heap.size W7.heap.size 9 (.slice ao_n L_n cap_n) (ss st2.l)) := o_n7
     clear hL_n hM_n
     have z7 : W6.heap.size ≤ W7.heap.size := b7.size
     have B7 : Hid (Below w.heap.size w W7) := B6.out.trans (b7.mono B6.out.size)
     have r_s7 : Hid (W7.heap[W2.heap.size]? = some (.cells #[.slice ao_v L_v cap_v, .int .i64 st.h.n, .string st.h.r, .slice ao_p L_p cap_p, .int .i64 st.s] 39 (0, 0))) := rowKeep r_s6.out b7
     have r_res7 : Hid (W7.heap[w.heap.size]? = some (.cells #[.slice none 0 0, .int .i64 0, .string ⟨#[]⟩, .slice none 0 0, .int .i64 0] 39 (0, 0))) := rowKeep r_res6.out b7
     have o_v7 : Hid (Own W7 (W3.heap.size) (W4.heap.size) 9 (.slice ao_v L_v cap_v) (ss st.l)) := Own.later o_v6.out b7 (by omega)
     have o_p7 : Hid (Own W7 (W3.heap.size) (W4.heap.size) 5 (.slice ao_p L_p cap_p) (bs st.b)) := Own.later o_p6.out b7 (by omega)
     have c_s7_3 : W7.cell? ⟨W2.heap.size, 3, none⟩ = some (.slice ao_p L_p cap_p) := row_at r_s7.out 3
     clear r_s6 r_res6 r_h6 o_v6 o_p6 o_t6
     obtain ⟨ao_y, L_y, cap_y, rfl, _, _⟩ := o_y7.form
     have o_y7 : Hid (Own W7 W6.heap.size W7.heap.size 5 (.slice ao_y L_y cap_y) (bs st2.b)) := o_y7
     clear q4
     have a_s7_3 : ∀ o, (W7.alloc o).cell? ⟨W2.heap.size, 3, none⟩ = some (.slice ao_p L_p cap_p) := fun o => keepR c_s7_3 ((Below.refl _ _).alloc (Nat.le_refl _) o)
     obtain ⟨W8, HW8, b8, y8, hS8, r_x8⟩ : ∃ X, Hid ((W7.alloc (.cells #[.slice ao_n L_n cap_n, .int .i64 st2.h.n, .string st2.h.r, .slice ao_y L_y cap_y, .int .i64 st2.s] 39)) = X) ∧ Below W7.heap.size W7 X ∧ W7.heap.size + 1 ≤ X.heap.size ∧ Hid (X.heap.size = W7.heap.size + 1) ∧ Hid (X.heap[W7.heap.size]? = some (.cells #[.slice ao_n L_n cap_n, .int .i64 st2.h.n, .string st2.h.r, .slice ao_y L_y cap_y, .int .i64 st2.s] 39 (0, 0))) := ⟨_, rfl, ((Below.refl _ _).alloc (Nat.le_refl _) _), by simp, by show _ = _; simp, (by show _ = _; exact alloc_nth1_0 W7 _)⟩
     have B8 : Hid (Below w.heap.size w W8) := B7.out.trans (b8.mono B7.out.size)
     have r_s8 : Hid (W8.heap[W2.heap.size]? = some (.cells #[.slice ao_v L_v cap_v, .int .i64 st.h.n, .string st.h.r, .slice ao_p L_p cap_p, .int .i64 st.s] 39 (0, 0))) := rowKeep r_s7.out b8
     have r_res8 : Hid (W8.heap[w.heap.size]? = some (.cells #[.slice none 0 0, .int .i64 0, .string ⟨#[]⟩, .slice none 0 0, .int .i64 0] 39 (0, 0))) := rowKeep r_res7.out b8
     have o_v8 : Hid (Own W8 (W3.heap.size) (W4.heap.size) 9 (.slice ao_v L_v cap_v) (ss st.l)) := Own.later o_v7.out b8 (by omega)
     have o_p8 : Hid (Own W8 (W3.heap.size) (W4.heap.size) 5 (.slice ao_p L_p cap_p) (bs st.b)) := Own.later o_p7.out b8 (by omega)
     have o_n8 : Hid (Own W8 (W6.heap.size) (W7.heap.size) 9 (.slice ao_n L_n cap_n) (ss st2.l)) := Own.later o_n7.out b8 (by omega)
     have o_y8 : Hid (Own W8 (W6.heap.size) (W7.heap.size) 5 (.slice ao_y L_y cap_y) (bs st2.b)) := Own.later o_y7.out b8 (by omega)
     clear r_s7 c_s7_3 r_res7 o_v7 o_p7 o_n7 o_y7
     by_cases hcode : code = 0
     ·
      subst hcode
      obtain ⟨f9, hf9, hF9⟩ := HQ7.out (by rw [HC.out])
      rw [HC.out] at hF9
      have HQ4 : Hid (∃ f, ys.length - q ≤ f ∧ openF f t ys q st2 (n + 1) = R) := ⟨f9, hf9, hF9⟩
      clear hF9 hf9
      obtain ⟨c1, c2, c3, c4, c5, c6, c7⟩ := commit1_good (st := st) (t := t) (h := h) (x := x) (by rw [HC.out])
      rw [HC.out] at c7
      simp only at c7
      have hl5 : st2.l.length ≤ 200 := by rw [c7]; exact c5
      have hb5 : st2.b.length ≤ q := by rw [c7]; simp only [List.length_append]; omega
      have HZ5 : Hid (∀ s ∈ st2.l, s.size ≤ 1000000000) := by show ∀ s ∈ st2.l, s.size ≤ 1000000000; rw [c7]; exact size_app HZ.out HQ5.out
      clear c1 c2 c3 c4 c5 c6 c7
      go_wp2_with ((try rw [HW8.out]); refine wpl_partG rfl 39 _ _ rfl (W2.heap.size) 0 (sc (.slice ao_n L_n cap_n) st2.h (.slice ao_y L_y cap_y) st2.s) rfl rfl [.slice ao_v L_v cap_v, .int .i64 st.h.n, .string st.h.r, .slice ao_p L_p cap_p, .int .i64 st.s] 39 r_s8.out (Nat.le_of_ble_eq_true rfl) (sizeS _ _ _ _) (oneS _ _ rfl rfl) [.slice ao_n L_n cap_n, .int .i64 st2.h.n, .string st2.h.r, .slice ao_y L_y cap_y, .int .i64 st2.s] rfl ?_)
      intro W9 r_s9 g9
      clear a_s7_3
      have r_s9 : Hid (W9.heap[W2.heap.size]? = some (.cells #[.slice ao_n L_n cap_n, .int .i64 st2.h.n, .string st2.h.r, .slice ao_y L_y cap_y, .int .i64 st2.s] 39 (0, 0))) := r_s9
      have z9 : W8.heap.size ≤ W9.heap.size := g9.size
      have B9 : Hid (Below w.heap.size w W9) := belowGro B8.out g9 B8.out.size (fun k9 h9 => by injection h9 with h9; have := B8.out.size; omega)
      have r_res9 : Hid (W9.heap[w.heap.size]? = some (.cells #[.slice none 0 0, .int .i64 0, .string ⟨#[]⟩, .slice none 0 0, .int .i64 0] 39 (0, 0))) := rowGro r_res8.out g9 (fun h9 => by injection h9 with h9; omega)
      have o_n9 : Hid (Own W9 (W6.heap.size) (W7.heap.size) 9 (.slice ao_n L_n cap_n) (ss st2.l)) := Own.gro o_n8.out g9 (fun k9 h9 e9 => Own.neRow o_n8.out r_s8.out (by decide) (h9.trans e9.symm))
      have o_y9 : Hid (Own W9 (W6.heap.size) (W7.heap.size) 5 (.slice ao_y L_y cap_y) (bs st2.b)) := Own.gro o_y8.out g9 (fun k9 h9 e9 => Own.neRow o_y8.out r_s8.out (by decide) (h9.trans e9.symm))
      clear r_res8 r_x8 o_v8 o_p8 o_n8 o_y8
      clear r_s8
      clear g9
      have wn : IntKind.i64.wrap ((n : Int) + 1) = ((n + 1 : Nat) : Int) := by rw [IntKind.wrap_i64]; omega
      go_wp2
      go_roundw
      case rel => exact ⟨q, n + 1, st2, ao_n, L_n, cap_n, ao_y, L_y, cap_y, hq2, by omega, by go_num, rfl, HQ4, r_s9, r_res9, Own.mono o_n9.out (by omega) (by omega), Own.mono o_y9.out (by omega) (by omega), B9, by omega, hl5, hb5, HZ5⟩
      case measure => simp [intOf]; omega
     ·
      have cn : (code == 0) = false := by rw [beq_eq_false_iff_ne]; exact hcode
      have cm : (code != 0) = true := by rw [bne, cn]; rfl
      have HN : Hid (R = (st, n)) := H1.out (fun h9 => hcode (by have := h9.2; rw [HC.out] at this; exact this))
      have HLP : Hid ((L_p : Int) = (st.b.length : Int)) := by show _ = _; omega
      go_wp2_with ((try rw [HW8.out]); refine wpl_oneG rfl 3 _ _ rfl (W2.heap.size) 4 (.int .i64 (L_p : Int)) rfl rfl [.slice ao_v L_v cap_v, .int .i64 st.h.n, .string st.h.r, .slice ao_p L_p cap_p, .int .i64 st.s] 39 r_s8.out (Nat.le_of_ble_eq_true rfl) (by kernel_rfl) rfl [.slice ao_v L_v cap_v, .int .i64 st.h.n, .string st.h.r, .slice ao_p L_p cap_p, .int .i64 (L_p : Int)] rfl ?_)
      intro W9 r_s9 g9
      clear a_s7_3
      have r_s9 : Hid (W9.heap[W2.heap.size]? = some (.cells #[.slice ao_v L_v cap_v, .int .i64 st.h.n, .string st.h.r, .slice ao_p L_p cap_p, .int .i64 (L_p : Int)] 39 (0, 0))) := r_s9
      have z9 : W8.heap.size ≤ W9.heap.size := g9.size
      have B9 : Hid (Below w.heap.size w W9) := belowGro B8.out g9 B8.out.size (fun k9 h9 => by injection h9 with h9; have := B8.out.size; omega)
      have r_res9 : Hid (W9.heap[w.heap.size]? = some (.cells #[.slice none 0 0, .int .i64 0, .string ⟨#[]⟩, .slice none 0 0, .int .i64 0] 39 (0, 0))) := rowGro r_res8.out g9 (fun h9 => by injection h9 with h9; omega)
      have o_v9 : Hid (Own W9 (W3.heap.size) (W4.heap.size) 9 (.slice ao_v L_v cap_v) (ss st.l)) := Own.gro o_v8.out g9 (fun k9 h9 e9 => Own.neRow o_v8.out r_s8.out (by decide) (h9.trans e9.symm))
      have o_p9 : Hid (Own W9 (W3.heap.size) (W4.heap.size) 5 (.slice ao_p L_p cap_p) (bs st.b)) := Own.gro o_p8.out g9 (fun k9 h9 e9 => Own.neRow o_p8.out r_s8.out (by decide) (h9.trans e9.symm))
      clear r_res8 r_x8 o_v8 o_p8 o_n8 o_y8
      clear r_s8
      clear g9
      go_wp2_with (first | (refine wpList_load_row rfl 39 _ rfl (W2.heap.size) rfl 39 (sc (.slice ao_v L_v cap_v) st.h (.slice ao_p L_p cap_p) (L_p : Int)) (0, 0) _ r_s9.out Tryz.underlying39 rfl (sizeS _ _ _ _) ?_) | (refine wpList_store_row rfl 39 _ _ rfl (w.heap.size) (sc (.slice ao_v L_v cap_v) st.h (.slice ao_p L_p cap_p) (L_p : Int)) rfl rfl 39 _ r_res9.out (sizeS _ _ _ _) rfl (oneS _ _ rfl rfl) ?_))
      refine bodyPost_ret (res_row_tmp rfl _ _ (w.heap.size) 39 (sc (.slice ao_v L_v cap_v) st.h (.slice ao_p L_p cap_p) (L_p : Int)) (0, 0) _ rfl (setRow_heap _ _ _ _ _ (0, 0) r_res9.out) Tryz.underlying39 rfl (sizeS _ _ _ _)) rfl ⟨.slice ao_v L_v cap_v, .slice ao_p L_p cap_p, by rw [HN.out]; simp only [sc]; rw [← HLP.out]; rfl, ?_, ?_, below_setRow B9.out (by omega) _⟩
      ·
       rw [HN.out]
       exact (Own.setRow o_v9.out _ (by omega)).mono (by omega) (by rw [size_setRow]; omega)
      ·
       rw [HN.out]
       exact (Own.setRow o_p9.out _ (by omega)).mono (by omega) (by rw [size_setRow]; omega)
   ·
    have hl3 : ¬ ((a : Int) < ((xs.length : Int) : Int)) := fun h9 => hlt (hlt2.1 h9)
    clear hlt2
    have HN : Hid (R = (st, n)) := open_end hlt HF.out
    have HLP : Hid ((L_p : Int) = (st.b.length : Int)) := by show _ = _; omega
    go_wp2_with (refine wpl_oneG rfl 3 _ _ rfl (W2.heap.size) 4 (.int .i64 (L_p : Int)) rfl rfl [.slice ao_v L_v cap_v, .int .i64 st.h.n, .string st.h.r, .slice ao_p L_p cap_p, .int .i64 st.s] 39 r_s4.out (Nat.le_of_ble_eq_true rfl) (by kernel_rfl) rfl [.slice ao_v L_v cap_v, .int .i64 st.h.n, .string st.h.r, .slice ao_p L_p cap_p, .int .i64 (L_p : Int)] rfl ?_)
    intro W5 r_s5 g5
    have r_s5 : Hid (W5.heap[W2.heap.size]? = some (.cells #[.slice ao_v L_v cap_v, .int .i64 st.h.n, .string st.h.r, .slice ao_p L_p cap_p, .int .i64 (L_p : Int)] 39 (0, 0))) := r_s5
    have z5 : W4.heap.size ≤ W5.heap.size := g5.size
    have B5 : Hid (Below w.heap.size w W5) := belowGro B4.out g5 B4.out.size (fun k9 h9 => by injection h9 with h9; have := B4.out.size; omega)
    have r_res5 : Hid (W5.heap[w.heap.size]? = some (.cells #[.slice none 0 0, .int .i64 0, .string ⟨#[]⟩, .slice none 0 0, .int .i64 0] 39 (0, 0))) := rowGro r_res4.out g5 (fun h9 => by injection h9 with h9; omega)
    have o_v5 : Hid (Own W5 (W3.heap.size) (W4.heap.size) 9 (.slice ao_v L_v cap_v) (ss st.l)) := Own.gro o_v4.out g5 (fun k9 h9 e9 => Own.neRow o_v4.out r_s4.out (by decide) (h9.trans e9.symm))
    have o_p5 : Hid (Own W5 (W3.heap.size) (W4.heap.size) 5 (.slice ao_p L_p cap_p) (bs st.b)) := Own.gro o_p4.out g5 (fun k9 h9 e9 => Own.neRow o_p4.out r_s4.out (by decide) (h9.trans e9.symm))
    clear r_res4 o_v4 o_p4
    clear r_s4 c_s4_3
    clear g5
    go_wp2_with (first | (refine wpList_load_row rfl 39 _ rfl (W2.heap.size) rfl 39 (sc (.slice ao_v L_v cap_v) st.h (.slice ao_p L_p cap_p) (L_p : Int)) (0, 0) _ r_s5.out Tryz.underlying39 rfl (sizeS _ _ _ _) ?_) | (refine wpList_store_row rfl 39 _ _ rfl (w.heap.size) (sc (.slice ao_v L_v cap_v) st.h (.slice ao_p L_p cap_p) (L_p : Int)) rfl rfl 39 _ r_res5.out (sizeS _ _ _ _) rfl (oneS _ _ rfl rfl) ?_))
    refine bodyPost_ret (res_row_tmp rfl _ _ (w.heap.size) 39 (sc (.slice ao_v L_v cap_v) st.h (.slice ao_p L_p cap_p) (L_p : Int)) (0, 0) _ rfl (setRow_heap _ _ _ _ _ (0, 0) r_res5.out) Tryz.underlying39 rfl (sizeS _ _ _ _)) rfl ⟨.slice ao_v L_v cap_v, .slice ao_p L_p cap_p, by rw [HN.out]; simp only [sc]; rw [← HLP.out]; rfl, ?_, ?_, below_setRow B5.out (by omega) _⟩
    ·
     rw [HN.out]
     exact (Own.setRow o_v5.out _ (by omega)).mono (by omega) (by rw [size_setRow]; omega)
    ·
     rw [HN.out]
     exact (Own.setRow o_p5.out _ (by omega)).mono (by omega) (by rw [size_setRow]; omega)
end Go.Proofs.YtfpaichdkddglabGreatDoor.Sr
