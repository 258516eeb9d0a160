/- Texts in one: SrE, Cl2, SrF, MiA, Mi3. -/
import Derived.Test.YtchonoonclllbaaGreatDoorPh21
import Derived.Test.YtchonoonclllbaaGreatDoorPh15
import Derived.BigQuiet
set_option maxHeartbeats 16000000
set_option linter.unusedVariables false
set_option linter.unusedSimpArgs false
namespace Go.Proofs.YtchonoonclllbaaGreatDoor.Sr
open Go.RowKit Mem Laws Bytes Sha Tr He Lg
theorem replay_step {xs : List Int} {a : Nat} {l : List ByteArray} {hd : Hd} {R : List ByteArray × Hd × Bool} {h : Hd} {x : List ByteArray} {p : Int} {ok : Bool} (hlt : a < xs.length) (hg : getC xs (a : Int) = (h, x, p, ok))
  (hf : ∃ f, xs.length - a ≤ f ∧ replayF f xs a l hd = R) :
  (¬ (ok = true ∧ l.length + x.length ≤ 200) → R = (l, hd, false)) ∧
  (ok = true → l.length + x.length ≤ 200 → eqH h (headOf (l ++ x)) = false → R = (l ++ x, h, false)) ∧
  (Byt xs → ok = true → l.length + x.length ≤ 200 → eqH h (headOf (l ++ x)) = true → ∃ q : Nat, p = (q : Int) ∧ a < q ∧ q ≤ xs.length ∧ (∀ s ∈ x, s.size ≤ 1000000000) ∧ ∃ f, xs.length - q ≤ f ∧ replayF f xs q (l ++ x) h = R) := by
 obtain ⟨f, hf1, hf2⟩ := hf
 obtain ⟨f, rfl⟩ : ∃ k, f = k + 1 := ⟨f - 1, by omega⟩
 rw [replayF, if_pos hlt, hg] at hf2
 simp only at hf2
 refine ⟨fun hn => ?_, fun h1 h2 h3 => ?_, fun hb h1 h2 h3 => ?_⟩
 ·rw [if_neg hn] at hf2; exact hf2.symm
 ·rw [if_pos ⟨h1, h2⟩, if_neg (by simp [h3])] at hf2; exact hf2.symm
 ·subst h1
  rw [if_pos ⟨rfl, h2⟩, if_pos h3] at hf2
  obtain ⟨q, rfl, hq, hqx, _, _, _, hbl, _⟩ := put_get hb hg
  have hp := put_pos h x
  exact ⟨q, rfl, by omega, hqx, fun s hs => Nat.le_trans (size_body (h := h) hs) hbl, f, by omega, hf2⟩
theorem replay_end {xs : List Int} {a : Nat} {l : List ByteArray} {hd : Hd} {R : List ByteArray × Hd × Bool} (hlt : ¬ a < xs.length) (hf : ∃ f, xs.length - a ≤ f ∧ replayF f xs a l hd = R) : R = (l, hd, true) := by
 obtain ⟨f, _, hf2⟩ := hf
 cases f with
 | zero => exact hf2.symm
 | succ f => rw [replayF, if_neg hlt] at hf2; exact hf2.symm
theorem getC_len (xs : List Int) (a : Int) : (getC xs a).2.1.length ≤ 200 := by
 unfold getC
 split
 ·split
  ·rename_i h x hi
   split
   ·unfold inBody at hi
    split at hi
    ·simp only [Option.some.injEq, Prod.mk.injEq] at hi
     rw [← hi.2]
     exact Plain.getTexts_len _ _
    ·cases hi
   ·exact Nat.zero_le _
  ·exact Nat.zero_le _
 ·exact Nat.zero_le _
theorem getC_size {xs : List Int} {a : Nat} {h : Hd} {x : List ByteArray} {p : Int} {ok : Bool} (hb : Byt xs) (hg : getC xs (a : Int) = (h, x, p, ok)) : ∀ s ∈ x, s.size ≤ 1000000000 := by
 cases ok
 ·have := getC_no (xs := xs) (a := (a : Int)) (by rw [hg])
  rw [hg] at this
  simp only [no12, Prod.mk.injEq] at this
  rw [this.2.1]
  intro s hs
  cases hs
 ·obtain ⟨_, _, _, _, _, _, _, hbl, _⟩ := put_get hb hg
  exact fun s hs => Nat.le_trans (size_body (h := h) hs) hbl
theorem ownNil (w : World) (lo hi : Nat) (e : TypeId) : Own w lo hi e (.slice none 0 0) [] := ⟨⟨rfl, Or.inl ⟨rfl, rfl⟩⟩, fun g hg => by simp [Value.ownBlock] at hg⟩
set_option maxRecDepth 1000000 in
theorem replay_spec (w : World) (v : Value) (xs : List Int) (hs : Sl w v (bs xs)) (hb : Byt xs) (hx : xs.length ≤ 1000000000000) :
  Calls Tryz.prog 95 #[v] w fun e w' => ∃ v', e = .returned (.tuple #[.agg #[v', .int .i64 (replay xs).2.1.n, .string (replay xs).2.1.r], .bool (replay xs).2.2]) ∧ Own w' w.heap.size w'.heap.size 9 v' (ss (replay xs).1) ∧ Below w.heap.size w w' := by
 obtain ⟨R, hR⟩ : ∃ R, replay xs = R := ⟨_, rfl⟩
 have HF0 : Hid (∃ f, xs.length - 0 ≤ f ∧ replayF f xs 0 [] (headOf []) = R) := ⟨xs.length, by omega, hR⟩
 rw [hR]
 have HS : Hid (Sl w v (bs xs)) := hs
 have HBY : Hid (Byt xs) := hb
 obtain ⟨ao0, cap0, rfl, hc0⟩ := hs.form
 rw [bs_len] at *
 clear hs hb hR
 have B0 : Hid (Below w.heap.size w w) := Below.refl _ _
 obtain ⟨i9, hi9, hz9a, hz9b, hz9c⟩ := info_parts info9t
 obtain ⟨W1, HW1, b1, y1, hS1, r_res1⟩ := Ke.l1 w #[.slice none 0 0, .int .i64 0, .string ⟨#[]⟩] 28
 have z1 := b1.size
 have B1 := Ke.b B0 b1
 have q0 : ∀ W, _ := fun W => lognew_spec W
 obtain ⟨M, hM⟩ : ∃ M, headOf [] = M := ⟨_, rfl⟩
 simp only [hM] at q0
 rw [hM] at HF0
 clear hM
 have qg : ∀ W, Below w.heap.size w W → ∀ a : Nat, a ≤ xs.length → _ := fun W hW a ha => get_spec W _ xs (a : Int) (HS.out.later hW) HBY.out hx (by omega) (by omega)
 have qo : ∀ W v1 l1, Sl W v1 (ss l1) → l1.length ≤ 1000 → (∀ s ∈ l1, s.size ≤ 1000000000) → _ := fun W v1 l1 h1 h2 h3 => headOf_spec W v1 l1 h1 (by omega) (fun s hs => by have := h3 s hs; omega)
 go_enter Tryz.func95, Tryz.ntmps95
 go_wp2_with fail
 rw [HW1.out]
 refine (q0 W1).mono ?_
 rintro e W2 ⟨rfl, b2⟩
 have z2 := b2.size
 have B2 := Ke.b B1 b2
 have r_res2 := Ke.r r_res1 b2
 clear r_res1
 obtain ⟨W3, HW3, b3, y3, hS3, r_l3⟩ := Ke.l1 W2 #[.slice none 0 0, .int .i64 M.n, .string M.r] 28
 have z3 := b3.size
 have B3 := Ke.b B2 b3
 have r_res3 := Ke.r r_res2 b3
 clear r_res2
 go_wp2_with fail
 rw [HW3.out]
 go_loopw [5] (fun iv wr => ∃ (a : Nat) (l : List ByteArray) (hd : Hd) (ao : Option Addr) (L cap : Nat), a ≤ xs.length ∧ iv = .int .i64 (a : Int) ∧ Hid (∃ f, xs.length - a ≤ f ∧ replayF f xs a l hd = R) ∧ Hid (wr.heap[W2.heap.size]? = some (.cells #[.slice ao L cap, .int .i64 hd.n, .string hd.r] 28 (0, 0))) ∧ Hid (wr.heap[w.heap.size]? = some (.cells #[.slice none 0 0, .int .i64 0, .string ⟨#[]⟩] 28 (0, 0))) ∧ Hid (Own wr W3.heap.size wr.heap.size 9 (.slice ao L cap) (ss l)) ∧ Hid (Below w.heap.size w wr) ∧ W3.heap.size ≤ wr.heap.size ∧ l.length ≤ 200 ∧ Hid (∀ s ∈ l, s.size ≤ 1000000000)) (fun iv _ => xs.length - (intOf iv).toNat)
 case atStart => exact ⟨0, [], M, none, 0, 0, Nat.zero_le _, rfl, HF0, r_l3, r_res3, ownNil _ _ _ _, B3, Nat.le_refl _, Nat.zero_le _, fun s hs => by cases hs⟩
 case round =>
  obtain ⟨a, l, hd, ao_v, L_v, cap_v, ha, rfl, HF, r_l4, r_res4, o_v4, B4, z4, hl2, HZ⟩ := hrel
  obtain ⟨W4, hW4⟩ : ∃ X, X = wr := ⟨_, rfl⟩
  subst hW4
  clear HF0 r_l3 r_res3
  have hLv : L_v ≤ l.length ∧ l.length ≤ L_v := by obtain ⟨a9, L9, c9, he, h1, h2⟩ := Mem.Own.form o_v4.out; injection he with _ he2 _; rw [ss_len] at h1 h2; omega
  by_cases hlt : a < xs.length
  ·have q2 := qg W4 B4.out a ha
   obtain ⟨h, x, p, ok, hg⟩ : ∃ h x p ok, getC xs (a : Int) = (h, x, p, ok) := ⟨_, _, _, _, rfl⟩
   unfold GotC at q2
   rw [hg] at q2
   simp only at q2
   obtain ⟨S1, S2, S3⟩ := replay_step hlt hg HF.out
   have H1 : Hid _ := S1
   have H2 : Hid _ := S2
   have H3 : Hid _ := S3
   have hx2 : x.length ≤ 200 := by
    have h9 := getC_len xs (a : Int)
    rw [hg] at h9
    exact h9
   have H4 : Hid (getC xs (a : Int) = (h, x, p, ok)) := hg
   clear S1 S2 S3 HF hg
   go_wp2_with fail
   refine (q2).mono ?_
   rintro e W5 ⟨v_t, rfl, o_t5, b5⟩
   obtain ⟨ao_t, L_t, cap_t, rfl, hL_t, hM_t⟩ := o_t5.form
   have o_t5 : Hid (Own W5 W4.heap.size W5.heap.size 9 (.slice ao_t L_t cap_t) (ss x)) := o_t5
   clear hL_t hM_t
   have z5 := b5.size
   have B5 := Ke.b B4 b5
   have r_l5 := Ke.r r_l4 b5
   have r_res5 := Ke.r r_res4 b5
   have o_v5 := Ke.o o_v4 b5
   have c_l5 := Ke.c r_l5
   clear r_l4 r_res4 o_v4
   have hLt : L_t ≤ x.length ∧ x.length ≤ L_t := by obtain ⟨a9, L9, c9, he, h1, h2⟩ := Mem.Own.form o_t5.out; injection he with _ he2 _; rw [ss_len] at h1 h2; omega
   clear q2
   have a_l5 := Ke.a r_l5
   obtain ⟨W6, HW6, b6, y6, hS6, r_h6⟩ := Ke.l1 W5 #[.int .i64 h.n, .string h.r] 26
   have z6 := b6.size
   have B6 := Ke.b B5 b6
   have r_l6 := Ke.r r_l5 b6
   have r_res6 := Ke.r r_res5 b6
   have o_v6 := Ke.o o_v5 b6
   have o_t6 := Ke.o o_t5 b6
   clear r_l5 c_l5 r_res5 o_v5 o_t5
   cases ok
   ·have HN : Hid (R = (l, hd, false)) := H1.out (by simp)
    go_wp2_with (first | ((try rw [HW6.out]); refine wpList_load_row rfl 28 _ rfl (W2.heap.size) rfl 28 (lc (.slice ao_v L_v cap_v) hd) (0, 0) _ r_l6.out Tryz.underlying28 rfl (sizeL _ _) ?_) | (refine wpList_store_row rfl 28 _ _ rfl (w.heap.size) (lc (.slice ao_v L_v cap_v) hd) rfl rfl 28 _ r_res6.out (sizeL _ _) rfl (oneL _ rfl) ?_))
    refine bodyPost_ret (res_row_tmp rfl _ _ (w.heap.size) 28 (lc (.slice ao_v L_v cap_v) hd) (0, 0) _ rfl (setRow_heap _ _ _ _ _ (0, 0) r_res6.out) Tryz.underlying28 rfl (sizeL _ _)) rfl ⟨.slice ao_v L_v cap_v, by rw [HN.out]; rfl, ?_, below_setRow B6.out (by omega) _⟩
    rw [HN.out]
    exact (Own.setRow o_v6.out _ (by omega)).mono (by omega) (by rw [size_setRow]; omega)
   ·by_cases h200 : l.length + x.length ≤ 200
    ·have d200 : ¬ (200 : Int) < (L_v : Int) + (L_t : Int) := by omega
     have c6_7 : (ss l).length + (ss x).length ≤ maxLen := by rw [ss_len, ss_len]; unfold maxLen; (try simp only [List.length_nil]); omega
     have c7_7 : ((ss l).length + (ss x).length) * 16 ≤ 140737488355328 := by rw [ss_len, ss_len]; (try simp only [List.length_nil]); omega
     have sE7 : Hid (Sl W6 _ (ss x)) := o_t6.out.sl
     go_wp2_with (at_builtin; (try rw [HW6.out]); go_must (refine wpl_app _ rfl (.tmp 36) (.tmp 37) 24 rfl 9 i9 (.string ⟨#[]⟩) 16 Tryz.underlying24 hi9 hz9a hz9b hz9c rfl (W3.heap.size) _ (ss l) rfl (Own.mono o_v6.out (Nat.le_refl _) (by omega)) _ rfl (ss x) sE7.out (ss_one x) c6_7 c7_7 (by omega) ?_))
     intro v_n W7 o_n7 _ g7
     clear a_l5
     have o_n7 : Own W7 (W3.heap.size) W7.heap.size 9 v_n (ss (l ++ x)) := by show Own _ _ _ _ _ _; rw [ss_app]; exact o_n7
     have o_n7h : Hid (Own W7 (W3.heap.size) W7.heap.size 9 v_n (ss (l ++ x))) := o_n7
     clear o_n7
     have o_n7 := o_n7h
     clear o_n7h
     obtain ⟨ao_n, L_n, cap_n, rfl, _, _⟩ := Mem.Own.form o_n7.out
     have z7 := g7.size
     have B7 : Hid (Below w.heap.size w W7) := belowGro B6.out g7 B6.out.size (Own.low o_v6.out (by have := B6.out.size; omega))
     have r_l7 := Ke.n r_l6 o_v6 g7
     have r_res7 := Ke.n r_res6 o_v6 g7
     have r_h7 := Ke.n r_h6 o_v6 g7
     clear r_l6 r_res6 r_h6 o_v6 o_t6
     clear g7 sE7 c6_7 c7_7
     go_wp2_with (refine wpl_oneG rfl 24 _ _ rfl (W2.heap.size) 0 (.slice ao_n L_n cap_n) rfl rfl [.slice ao_v L_v cap_v, .int .i64 hd.n, .string hd.r] 28 r_l7.out (Nat.le_of_ble_eq_true rfl) (by kernel_rfl) rfl [.slice ao_n L_n cap_n, .int .i64 hd.n, .string hd.r] rfl ?_)
     intro W8 r_l8 g8
     have r_l8 := Ke.h r_l8
     have z8 := g8.size
     have B8 := Ke.i B7 g8
     have r_res8 := Ke.s r_res7 g8
     have r_h8 := Ke.s r_h7 g8
     have o_n8 := Ke.t o_n7 r_l7 g8
     have c_h8 := Ke.c r_h8
     clear r_res7 r_h7 o_n7
     clear r_l7
     clear g8
     go_wp2_with (refine wpl_partG rfl 26 _ _ rfl (W2.heap.size) 1 (hc h) rfl rfl [.slice ao_n L_n cap_n, .int .i64 hd.n, .string hd.r] 28 r_l8.out (Nat.le_of_ble_eq_true rfl) (sizeH _) (oneH _) [.slice ao_n L_n cap_n, .int .i64 h.n, .string h.r] rfl ?_)
     intro W9 r_l9 g9
     have r_l9 := Ke.h r_l9
     have z9 := g9.size
     have B9 := Ke.i B8 g9
     have r_res9 := Ke.s r_res8 g9
     have r_h9 := Ke.s r_h8 g9
     have o_n9 := Ke.t o_n8 r_l8 g9
     have c_l9 := Ke.c r_l9
     have c_h9 := Ke.c r_h9
     clear r_res8 r_h8 c_h8 o_n8
     clear r_l8
     clear g9
     obtain ⟨M9, hM9⟩ : ∃ A, headOf (l ++ x) = A := ⟨_, rfl⟩
     obtain ⟨E, hE⟩ : ∃ A, eqH h M9 = A := ⟨_, rfl⟩
     have e1 : ∀ W, _ := fun W => neqH W h M9
     have e2 : ∀ W op y z xs ys, _ := fun W op y z xs ys => grdH W op y z xs ys
     simp only [hE] at e1
     have HE : Hid (eqH h (headOf (l ++ x)) = E) := by show _ = _; rw [hM9]; exact hE
     have HZX : Hid (E = true → ∀ s ∈ l ++ x, s.size ≤ 1000000000) := fun h9 => by
      obtain ⟨_, _, _, _, h5, _⟩ := H3.out HBY.out (by first | exact rfl | trivial) h200 (by rw [HE.out]; exact h9)
      exact size_app HZ.out h5
     have qq : ∀ W v1, Sl W v1 (ss (l ++ x)) → _ := fun W v1 h1 => qo W v1 (l ++ x) h1 (by rw [List.length_append]; omega) (size_app HZ.out (getC_size HBY.out H4.out))
     simp only [hM9] at qq
     clear hM9 hE
     go_wp2_with fail
     refine wp_region_held_drew (S := fun w' => w'.cell? ⟨W5.heap.size, 0, none⟩ = some (.int .i64 h.n) ∧ w'.cell? ⟨W5.heap.size, 1, none⟩ = some (.string h.r) ∧ w'.cell? ⟨W2.heap.size, 0, none⟩ = some (.slice ao_n L_n cap_n) ∧ w'.cell? ⟨W2.heap.size, 1, none⟩ = some (.int .i64 h.n) ∧ w'.cell? ⟨W2.heap.size, 2, none⟩ = some (.string h.r)) (by kernel_rfl) ⟨(c_h9 0), (c_h9 1), (c_l9 0), (c_l9 1), (c_l9 2)⟩ (fun hHeld => ?_)
     refine Ke.q 0 ?_; try simp only [Act.put, pq]
     refine Ke.q 1 ?_; try simp only [Act.put, pq]
     refine Ke.q 2 ?_; try simp only [Act.put, pq]
     refine Ke.z 3 rfl (fun K hK => ?_)
     go_simp
     refine (qq W9.drew _ (Own.sl (w := W9) o_n9.out)).mono ?_
     rintro e W10 ⟨rfl, b10⟩
     have b10 : Below W9.heap.size W9 W10 := (Below.drew (Below.refl _ _)).trans b10
     refine hK.out _ _ ⟨(keepR (W := W9) hHeld.1 b10), (keepR (W := W9) hHeld.2.1 b10), (keepR (W := W9) hHeld.2.2.1 b10), (keepR (W := W9) hHeld.2.2.2.1 b10), (keepR (W := W9) hHeld.2.2.2.2 b10)⟩ (fun hHeld => ?_)
     clear hK K
     try simp only [Act.put, pq]
     have z10 := b10.size
     have B10 := Ke.b B9 b10
     have r_l10 := Ke.r r_l9 b10
     have r_res10 := Ke.r r_res9 b10
     have o_n10 := Ke.o o_n9 b10
     clear r_l9 c_l9 r_res9 r_h9 c_h9 o_n9
     refine Ke.q 4 ?_; try simp only [Act.put, pq]
     refine wpAnyH_done (by kernel_rfl) ?_ _
     clear hHeld
     cases E
     ·have HN : Hid (R = (l ++ x, h, false)) := H2.out (by first | exact rfl | trivial) h200 HE.out
      go_wp2_with (first | (refine wpList_load_row rfl 28 _ rfl (W2.heap.size) rfl 28 (lc (.slice ao_n L_n cap_n) h) (0, 0) _ r_l10.out Tryz.underlying28 rfl (sizeL _ _) ?_) | (refine wpList_store_row rfl 28 _ _ rfl (w.heap.size) (lc (.slice ao_n L_n cap_n) h) rfl rfl 28 _ r_res10.out (sizeL _ _) rfl (oneL _ rfl) ?_))
      refine bodyPost_ret (res_row_tmp rfl _ _ (w.heap.size) 28 (lc (.slice ao_n L_n cap_n) h) (0, 0) _ rfl (setRow_heap _ _ _ _ _ (0, 0) r_res10.out) Tryz.underlying28 rfl (sizeL _ _)) rfl ⟨.slice ao_n L_n cap_n, by rw [HN.out]; rfl, ?_, below_setRow B10.out (by omega) _⟩
      rw [HN.out]
      exact (Own.setRow o_n10.out _ (by omega)).mono (by omega) (by rw [size_setRow]; omega)
     ·obtain ⟨q, rfl, hq1, hq2, hq3, hq4⟩ := H3.out HBY.out (by first | exact rfl | trivial) h200 HE.out
      have HQ3 : Hid (∀ s ∈ x, s.size ≤ 1000000000) := hq3
      have HQ4 : Hid (∃ f, xs.length - q ≤ f ∧ replayF f xs q (l ++ x) h = R) := hq4
      clear hq3 hq4
      go_wp2
      go_roundw
      case rel => exact ⟨q, l ++ x, h, ao_n, L_n, cap_n, hq2, rfl, HQ4, r_l10, r_res10, Own.mono o_n10.out (by omega) (by omega), B10, by omega, by rw [List.length_append]; omega, size_app HZ.out HQ3.out⟩
      case measure => simp [intOf]; omega
    ·have d200 : (200 : Int) < (L_v : Int) + (L_t : Int) := by omega
     have HN : Hid (R = (l, hd, false)) := H1.out (fun h9 => h200 h9.2)
     go_wp2_with (first | ((try rw [HW6.out]); refine wpList_load_row rfl 28 _ rfl (W2.heap.size) rfl 28 (lc (.slice ao_v L_v cap_v) hd) (0, 0) _ r_l6.out Tryz.underlying28 rfl (sizeL _ _) ?_) | (refine wpList_store_row rfl 28 _ _ rfl (w.heap.size) (lc (.slice ao_v L_v cap_v) hd) rfl rfl 28 _ r_res6.out (sizeL _ _) rfl (oneL _ rfl) ?_))
     refine bodyPost_ret (res_row_tmp rfl _ _ (w.heap.size) 28 (lc (.slice ao_v L_v cap_v) hd) (0, 0) _ rfl (setRow_heap _ _ _ _ _ (0, 0) r_res6.out) Tryz.underlying28 rfl (sizeL _ _)) rfl ⟨.slice ao_v L_v cap_v, by rw [HN.out]; rfl, ?_, below_setRow B6.out (by omega) _⟩
     rw [HN.out]
     exact (Own.setRow o_v6.out _ (by omega)).mono (by omega) (by rw [size_setRow]; omega)
  ·have HN : Hid (R = (l, hd, true)) := replay_end hlt HF.out
   go_wp2_with (first | (refine wpList_load_row rfl 28 _ rfl (W2.heap.size) rfl 28 (lc (.slice ao_v L_v cap_v) hd) (0, 0) _ r_l4.out Tryz.underlying28 rfl (sizeL _ _) ?_) | (refine wpList_store_row rfl 28 _ _ rfl (w.heap.size) (lc (.slice ao_v L_v cap_v) hd) rfl rfl 28 _ r_res4.out (sizeL _ _) rfl (oneL _ rfl) ?_))
   refine bodyPost_ret (res_row_tmp rfl _ _ (w.heap.size) 28 (lc (.slice ao_v L_v cap_v) hd) (0, 0) _ rfl (setRow_heap _ _ _ _ _ (0, 0) r_res4.out) Tryz.underlying28 rfl (sizeL _ _)) rfl ⟨.slice ao_v L_v cap_v, by rw [HN.out]; rfl, ?_, below_setRow B4.out (by omega) _⟩
   rw [HN.out]
   exact (Own.setRow o_v4.out _ (by omega)).mono (by omega) (by rw [size_setRow]; omega)
end Go.Proofs.YtchonoonclllbaaGreatDoor.Sr
namespace Go.Proofs.YtchonoonclllbaaGreatDoor.Cl
open Go.RowKit Mem Laws Bytes Sha Tr
theorem beq_no {a b : ByteArray} (h : a ≠ b) : (a.toList == b.toList) = false := by
 rw [beq_eq_false_iff_ne, ByteArray.toList_eq, ByteArray.toList_eq]
 intro e
 apply h
 cases a
 cases b
 simp only at e
 rw [Array.ext' e]
theorem Sl.form {w : World} {v : Value} {cs : List Value} (h : Sl w v cs) : ∃ (ao : Option Addr) (cap : Nat), v = .slice ao cs.length cap ∧ cs.length ≤ cap := by
 obtain ⟨ao, cap, rfl, hc, _⟩ := h
 exact ⟨ao, cap, rfl, hc⟩
set_option maxRecDepth 1000000 in
theorem same_spec (w : World) (v1 v2 : Value) (l m : List ByteArray) (t : Bool) (ht : t = true ↔ l = m) (h1 : Sl w v1 (ss l)) (h2 : Sl w v2 (ss m)) (hl : l.length ≤ 1000000000000) (hm : m.length ≤ 1000000000000) :
  Calls Tryz.prog 96 #[v1, v2] w fun e w' => e = .returned (.bool t) ∧ (∀ B, Below B w w') ∧ w'.heap.size = w.heap.size := by
 obtain ⟨ao, cap, rfl, hc1, _, hr1⟩ := h1
 obtain ⟨bo, cap2, rfl, hc2, _, hr2⟩ := h2
 rw [ss_len] at hr1 hr2 hc1 hc2
 rw [ss_len, ss_len]
 have HT : Hid (t = true ↔ l = m) := ht
 clear ht
 by_cases hlm : l.length = m.length
 ·have dn : ((l.length : Int) == (m.length : Int)) = true := by rw [beq_iff_eq]; omega
  have HLM : Hid (l.length = m.length) := hlm
  have hlm1 : l.length ≤ m.length := by omega
  have hlm2 : m.length ≤ l.length := by omega
  clear hlm
  go_enter Tryz.func96, Tryz.ntmps96
  go_wp2
  go_loopw [5] (fun i wr => ∃ k n : Nat, k ≤ l.length ∧ i = .int .i64 k ∧ Hid (l.take k = m.take k) ∧ wr = w.drewN n) (fun i _ => l.length - (intOf i).toNat)
  case atStart => exact ⟨0, 0, Nat.zero_le _, rfl, rfl, rfl⟩
  case round =>
   obtain ⟨k, n, hk, rfl, HK, rfl⟩ := hrel
   by_cases hlt : k < l.length
   ·obtain ⟨b, off, s, rfl, hx0, hcell⟩ := Sl.strAt hr1 rfl hlt
    obtain ⟨b2, off2, s2, rfl, hy0, hcell2⟩ := Sl.strAt hr2 rfl (show k < m.length by omega)
    have hlt' : (k : Int) < (m.length : Int) := by omega
    by_cases hst : s = s2
    ·subst hst
     have HN : Hid (l.take (k + 1) = m.take (k + 1)) := by
      show _ = _
      rw [List.take_add_one, List.take_add_one, HK.out, hx0, hy0]
     clear hx0 hy0 hr1 hr2 HK
     go_wp2
     go_quiet (fail)
     go_wp2
     go_roundw
     case rel => exact ⟨k + 1, n + nq, by omega, by go_num, HN, rfl⟩
     case measure => simp [intOf]; omega
    ·have HF : Hid (t = false) := by
      show _ = _
      cases t with
      | false => rfl
      | true =>
       have e := HT.out.1 rfl
       subst e
       rw [hx0] at hy0
       exact absurd (Option.some.inj hy0) hst
     have dq := beq_no hst
     clear hx0 hy0 hr1 hr2 HK hst
     go_wp2
     go_quiet (fail)
     go_wp2
     go_ret
     exact ⟨by rw [HF.out]; rfl, fun B => below_drewN (below_drewN (Below.refl _ _) _) _, rfl⟩
   ·have HF : Hid (t = true) := by
     show _ = _
     refine HT.out.2 ?_
     have h := HK.out
     rwa [List.take_of_length_le (by omega), List.take_of_length_le (by omega)] at h
    clear hr1 hr2 HK
    go_wp2
    go_ret
    exact ⟨by rw [HF.out]; rfl, fun B => below_drewN (Below.refl _ _) n, rfl⟩
 ·have HF : Hid (t = false) := by
   show _ = _
   cases t with
   | false => rfl
   | true => exact absurd (congrArg List.length (HT.out.1 rfl)) hlm
  have dn : ((l.length : Int) == (m.length : Int)) = false := by rw [beq_eq_false_iff_ne]; omega
  clear hr1 hr2 hlm
  go_enter Tryz.func96, Tryz.ntmps96
  go_wp2
  go_ret
  exact ⟨by rw [HF.out]; rfl, fun B => Below.refl _ _, rfl⟩
set_option maxRecDepth 1000000 in
theorem same_impl (w : World) (v1 v2 : Value) (l m : List ByteArray) (t : Bool) (ht : t = true ↔ l = m) (h1 : Sl w v1 (ss l)) (h2 : Sl w v2 (ss m)) (hl : l.length ≤ 1000000000000) (hm : m.length ≤ 1000000000000) :
  Calls Tryz.prog 117 #[v1, v2] w fun e w' => e = .returned (.bool t) ∧ (∀ B, Below B w w') ∧ w'.heap.size = w.heap.size := by
 obtain ⟨ao, cap, rfl, hc1, _, hr1⟩ := h1
 obtain ⟨bo, cap2, rfl, hc2, _, hr2⟩ := h2
 rw [ss_len] at hr1 hr2 hc1 hc2
 rw [ss_len, ss_len]
 have HT : Hid (t = true ↔ l = m) := ht
 clear ht
 by_cases hlm : l.length = m.length
 ·have dn : ((l.length : Int) == (m.length : Int)) = true := by rw [beq_iff_eq]; omega
  have HLM : Hid (l.length = m.length) := hlm
  have hlm1 : l.length ≤ m.length := by omega
  have hlm2 : m.length ≤ l.length := by omega
  clear hlm
  go_enter Tryz.func117, Tryz.ntmps117
  go_wp2
  go_loopw [13] (fun i wr => ∃ k n : Nat, k ≤ l.length ∧ i = .int .i64 k ∧ Hid (l.take k = m.take k) ∧ wr = w.drewN n) (fun i _ => l.length - (intOf i).toNat)
  case atStart => exact ⟨0, 0, Nat.zero_le _, rfl, rfl, rfl⟩
  case round =>
   obtain ⟨k, n, hk, rfl, HK, rfl⟩ := hrel
   by_cases hlt : k < l.length
   ·obtain ⟨b, off, s, rfl, hx0, hcell⟩ := Sl.strAt hr1 rfl hlt
    obtain ⟨b2, off2, s2, rfl, hy0, hcell2⟩ := Sl.strAt hr2 rfl (show k < m.length by omega)
    have hlt' : (k : Int) < (m.length : Int) := by omega
    by_cases hst : s = s2
    ·subst hst
     have HN : Hid (l.take (k + 1) = m.take (k + 1)) := by
      show _ = _
      rw [List.take_add_one, List.take_add_one, HK.out, hx0, hy0]
     clear hx0 hy0 hr1 hr2 HK
     go_wp2
     go_quiet (fail)
     go_wp2
     go_roundw
     case rel => exact ⟨k + 1, n + nq, by omega, by go_num, HN, rfl⟩
     case measure => simp [intOf]; omega
    ·have HF : Hid (t = false) := by
      show _ = _
      cases t with
      | false => rfl
      | true =>
       have e := HT.out.1 rfl
       subst e
       rw [hx0] at hy0
       exact absurd (Option.some.inj hy0) hst
     have dq := beq_no hst
     clear hx0 hy0 hr1 hr2 HK hst
     go_wp2
     go_quiet (fail)
     go_wp2
     go_ret
     exact ⟨by rw [HF.out]; rfl, fun B => below_drewN (below_drewN (Below.refl _ _) _) _, rfl⟩
   ·have HF : Hid (t = true) := by
     show _ = _
     refine HT.out.2 ?_
     have h := HK.out
     rwa [List.take_of_length_le (by omega), List.take_of_length_le (by omega)] at h
    clear hr1 hr2 HK
    go_wp2
    go_ret
    exact ⟨by rw [HF.out]; rfl, fun B => below_drewN (Below.refl _ _) n, rfl⟩
 ·have HF : Hid (t = false) := by
   show _ = _
   cases t with
   | false => rfl
   | true => exact absurd (congrArg List.length (HT.out.1 rfl)) hlm
  have dn : ((l.length : Int) == (m.length : Int)) = false := by rw [beq_eq_false_iff_ne]; omega
  clear hr1 hr2 hlm
  go_enter Tryz.func117, Tryz.ntmps117
  go_wp2
  go_ret
  exact ⟨by rw [HF.out]; rfl, fun B => Below.refl _ _, rfl⟩
end Go.Proofs.YtchonoonclllbaaGreatDoor.Cl
namespace Go.Proofs.YtchonoonclllbaaGreatDoor.Sr
open Go.RowKit Mem Laws Bytes Sha Tr He Lg
theorem replayF_len (xs : List Int) : ∀ (f a : Nat) (l : List ByteArray) (hd : Hd), l.length ≤ 200 → (replayF f xs a l hd).1.length ≤ 200 := by
 intro f
 induction f with
 | zero => intro a l hd h; exact h
 | succ f ih =>
  intro a l hd h
  rw [replayF]
  split
  ·split
   ·rename_i hc
    split
    ·exact ih _ _ _ (by rw [List.length_append]; exact hc.2)
    ·rw [List.length_append]; exact hc.2
   ·exact h
  ·exact h
theorem replay_len (xs : List Int) : (replay xs).1.length ≤ 200 := replayF_len xs _ _ _ _ (Nat.zero_le _)
set_option maxRecDepth 1000000 in
theorem storeok_spec (w : World) (v vb : Value) (st : Sto) (hs : Sl w v (ss st.l)) (hb : Sl w vb (bs st.b)) (hby : Byt st.b) (hl : st.l.length ≤ 1000000000) (hbl : st.b.length ≤ 1000000000) (hz : ∀ s ∈ st.l, s.size ≤ 10000000000) :
  Calls Tryz.prog 49 #[.agg #[v, .int .i64 st.h.n, .string st.h.r, vb, .int .i64 st.s]] w fun e w' => e = .returned (.bool (storeOk st)) ∧ Below w.heap.size w w' := by
 obtain ⟨R, hR⟩ : ∃ R, storeOk st = R := ⟨_, rfl⟩
 have HR : Hid (storeOk st = R) := hR
 rw [hR]
 obtain ⟨l, h, b, s⟩ := st
 simp only at *
 have HS : Hid (Sl w v (ss l)) := hs
 have HSB : Hid (Sl w vb (bs b)) := hb
 have HBY : Hid (Byt b) := hby
 obtain ⟨ao0, cap0, rfl, hc0⟩ := hs.form
 obtain ⟨ao1, cap1, rfl, hc1⟩ := hb.form
 simp only [ss_len, bs_len] at *
 clear hs hb hby hR
 have B0 : Hid (Below w.heap.size w w) := Below.refl _ _
 obtain ⟨W1, HW1, b1, y1, hS1, r_a1⟩ := Ke.l1 w #[.slice ao0 l.length cap0, .int .i64 h.n, .string h.r, .slice ao1 b.length cap1, .int .i64 s] 30
 have z1 := b1.size
 have B1 := Ke.b B0 b1
 have q1 : ∀ W v1, Sl W v1 (ss l) → _ := fun W v1 h1 => logok_spec W v1 l h h1 (by omega) hz
 obtain ⟨A, hA⟩ : ∃ A, logOk l h = A := ⟨_, rfl⟩
 simp only [hA] at q1
 have HA : Hid (logOk l h = A) := hA
 clear hA hz
 have q3 : ∀ W v1, Sl W v1 (bs b) → _ := fun W v1 h1 => replay_spec W v1 b h1 HBY.out (by omega)
 have hRl := replay_len b
 obtain ⟨E, hE⟩ : ∃ E, replay b = E := ⟨_, rfl⟩
 simp only [hE] at q3
 rw [hE] at hRl
 have HE : Hid (replay b = E) := hE
 obtain ⟨L, H, ok⟩ := E
 simp only at q3 hRl
 clear hE
 have HD : Hid (R = (A && decide (b.length ≤ 60000) && decide (0 ≤ s ∧ s ≤ (b.length : Int)) && ok && decide (L = l))) := by
  show _ = _
  rw [← HR.out]
  unfold storeOk
  simp only
  rw [HA.out, HE.out]
 go_enter Tryz.func49, Tryz.ntmps49
 go_wp2_with fail
 rw [HW1.out]
 refine (q1 W1 _ (HS.out.later B1.out)).mono ?_
 rintro e W2 ⟨rfl, b2⟩
 have z2 := b2.size
 have B2 := Ke.b B1 b2
 have r_a2 := Ke.r r_a1 b2
 have c_a2 := Ke.c r_a2
 clear r_a1
 cases A
 ·have HN : Hid (R = false) := by show _ = _; rw [HD.out]; simp
  go_wp2
  go_ret
  exact ⟨by rw [HN.out]; rfl, B2.out⟩
 ·by_cases h6 : b.length ≤ 60000
  ·have d6 : ¬ (60000 : Int) < (b.length : Int) := by omega
   by_cases hin : 0 ≤ s ∧ s ≤ (b.length : Int)
   ·have q2 := in6t W2 hin
    have HIN : Hid (0 ≤ s ∧ s ≤ (b.length : Int)) := hin
    clear hin
    go_wp2_with fail
    refine q2.mono ?_
    rintro e W_ ⟨rfl, hW_⟩
    subst hW_
    clear q2
    go_wp2_with fail
    refine (q3 W2 _ (HSB.out.later B2.out)).mono ?_
    rintro e W3 ⟨v_n, rfl, o_n3, b3⟩
    obtain ⟨ao_n, L_n, cap_n, rfl, hL_n, hM_n⟩ := o_n3.form
    have o_n3 : Hid (Own W3 W2.heap.size W3.heap.size 9 (.slice ao_n L_n cap_n) (ss L)) := o_n3
    clear hL_n hM_n
    have z3 := b3.size
    have B3 := Ke.b B2 b3
    have r_a3 := Ke.r r_a2 b3
    have c_a3 := Ke.c r_a3
    clear r_a2 c_a2
    have a_a3 := Ke.a r_a3
    obtain ⟨W4, HW4, b4, y4, hS4, r_l4⟩ := Ke.l1 W3 #[.slice ao_n L_n cap_n, .int .i64 H.n, .string H.r] 28
    have z4 := b4.size
    have B4 := Ke.b B3 b4
    have o_n4 := Ke.o o_n3 b4
    clear r_a3 c_a3 o_n3
    cases ok
    ·clear q1 q3
     have HN : Hid (R = false) := by show _ = _; rw [HD.out]; simp
     go_wp2_with fail
     rw [HW4.out]
     clear a_a3
     go_ret
     exact ⟨by rw [HN.out]; rfl, B4.out⟩
    ·obtain ⟨F, hF⟩ : ∃ F, decide (L = l) = F := ⟨_, rfl⟩
     have hF2 : F = true ↔ L = l := by rw [← hF]; exact decide_eq_true_iff
     have q4 : ∀ W v1 v2, Sl W v1 (ss L) → Sl W v2 (ss l) → _ := fun W v1 v2 h1 h2 => Cl.same_spec W v1 v2 L l F hF2 h1 h2 (by omega) (by omega)
     have HN : Hid (R = F) := by show _ = _; rw [HD.out, hF]; simp [h6, HIN.out]
     clear hF hF2
     go_wp2_with fail
     rw [HW4.out]
     clear a_a3
     refine (q4 W4 _ _ o_n4.out.sl (HS.out.later B4.out)).mono ?_
     rintro e W5 ⟨rfl, h5, _⟩
     have b5 : Below W4.heap.size W4 W5 := h5 _
     clear h5
     have z5 := b5.size
     have B5 := Ke.b B4 b5
     clear r_l4 o_n4
     go_wp2
     go_ret
     exact ⟨by rw [HN.out]; rfl, B5.out⟩
   ·have q2 := in6f W2 hin
    have HIN : Hid (¬ (0 ≤ s ∧ s ≤ (b.length : Int))) := hin
    clear hin
    go_wp2_with fail
    refine q2.mono ?_
    rintro e W_ ⟨rfl, hW_⟩
    subst hW_
    clear q2
    have HN : Hid (R = false) := by show _ = _; rw [HD.out]; rw [decide_eq_false HIN.out]; simp
    go_wp2
    go_ret
    exact ⟨by rw [HN.out]; rfl, B2.out⟩
  ·have d6 : (60000 : Int) < (b.length : Int) := by omega
   have HN : Hid (R = false) := by show _ = _; rw [HD.out]; rw [decide_eq_false h6]; simp
   go_wp2
   go_ret
   exact ⟨by rw [HN.out]; rfl, B2.out⟩
end Go.Proofs.YtchonoonclllbaaGreatDoor.Sr
namespace Go.Proofs.YtchonoonclllbaaGreatDoor.Mi
open Go.RowKit Mem Laws Bytes Sha Tr He Lg Sr Mg
set_option maxRecDepth 1000000 in
theorem known_spec (w : World) (vt : Value) (t : List Hd) (h : Hd) (hst : Sh w vt t) (htl : t.length ≤ 1000000000) :
  Calls Tryz.prog 51 #[vt, .agg #[.int .i64 h.n, .string h.r]] w fun e w' => e = .returned (.bool (known t h)) ∧ Below w.heap.size w w' := by
 obtain ⟨R, hR⟩ : ∃ R, known t h = R := ⟨_, rfl⟩
 have HR : Hid (known t h = R) := hR
 rw [hR]
 have HT : Hid (Sh w vt t) := hst
 have HZ : True := trivial
 obtain ⟨ao0, cap0, rfl, hc0⟩ := hst.form
 clear hst hR
 have B0 : Hid (Below w.heap.size w w) := Below.refl _ _
 obtain ⟨W1, HW1, b1, y1, hS1, r_h1⟩ := Ke.l1 w #[.int .i64 h.n, .string h.r] 26
 have z1 := b1.size
 have B1 := Ke.b B0 b1
 have c_h1 := Ke.c r_h1
 obtain ⟨M, hM⟩ : ∃ M, headOf [] = M := ⟨_, rfl⟩
 obtain ⟨E, hE⟩ : ∃ E, eqH h M = E := ⟨_, rfl⟩
 have e1 : ∀ W, _ := fun W => eqlH W h M
 have e2 : ∀ W op y z xs ys, _ := fun W op y z xs ys => grdH W op y z xs ys
 simp only [hE] at e1
 have q1 : ∀ W v1, Sl W v1 (ss []) → _ := fun W v1 h1 => headOf_spec W v1 [] h1 (by simp) (fun s hs => by cases hs)
 simp only [hM] at q1
 have q2 : ∀ W v1, Sh W v1 t → _ := fun W v1 h1 => signed_spec W v1 t h h1 (by omega)
 obtain ⟨A, hA⟩ : ∃ A, signed t h = A := ⟨_, rfl⟩
 simp only [hA] at q2
 have HD : Hid (R = (E || A)) := by show _ = _; rw [← HR.out]; unfold known; rw [hM, hE, hA]
 clear HR hM hE hA
 go_enter Tryz.func51, Tryz.ntmps51
 go_wp2_with fail
 rw [HW1.out]
 refine wp_region_held_drew (S := fun w' => w'.cell? ⟨w.heap.size, 0, none⟩ = some (.int .i64 h.n) ∧ w'.cell? ⟨w.heap.size, 1, none⟩ = some (.string h.r)) (by kernel_rfl) ⟨(c_h1 0), (c_h1 1)⟩ (fun hHeld => ?_)
 refine Ke.q 0 ?_; try simp only [Act.put, pq]
 refine Ke.z 1 rfl (fun K hK => ?_)
 go_simp
 refine hK.out _ _ ⟨(keepR (W := W1.drew) hHeld.1 ((Below.refl _ _).alloc (Nat.le_refl _) _)), (keepR (W := W1.drew) hHeld.2 ((Below.refl _ _).alloc (Nat.le_refl _) _))⟩ (fun hHeld => ?_)
 clear hK K
 try simp only [Act.put, pq]
 obtain ⟨W2, HW2, b2, o_e2⟩ : ∃ X, Hid ((W1.alloc (.cells #[] 9)).drew = X) ∧ Below W1.heap.size W1 X ∧ Hid (Own X W1.heap.size X.heap.size 9 (.slice (some ⟨W1.heap.size, 0, none⟩) 0 0) (ss [])) := ⟨_, rfl, (Below.drew ((Below.refl _ _).alloc (Nat.le_refl _) _)), emptyT W1 W1.heap.size (Nat.le_refl _)⟩
 have HHW2 := HW2.out
 rw [HHW2] at hHeld ⊢
 clear HHW2
 have z2 := b2.size
 have B2 := Ke.b B1 b2
 clear r_h1 c_h1
 refine Ke.z 2 rfl (fun K hK => ?_)
 go_simp
 refine (q1 W2 _ o_e2.out.sl).mono ?_
 rintro e W3 ⟨rfl, b3⟩
 refine hK.out _ _ ⟨(keepR (W := W2) hHeld.1 b3), (keepR (W := W2) hHeld.2 b3)⟩ (fun hHeld => ?_)
 clear hK K
 try simp only [Act.put, pq]
 have z3 := b3.size
 have B3 := Ke.b B2 b3
 clear o_e2
 refine Ke.q 3 ?_; try simp only [Act.put, pq]
 refine Ke.q 4 ?_; try simp only [Act.put, pq]
 cases E
 ·refine Ke.q 5 ?_; try simp only [Act.put, pq]
  refine Ke.q 6 ?_; try simp only [Act.put, pq]
  refine Ke.z 7 rfl (fun K hK => ?_)
  go_simp
  refine (q2 W3 _ (HT.out.later B3.out)).mono ?_
  rintro e W4 ⟨rfl, b4⟩
  refine hK.out _ _ ⟨(keepR (W := W3) hHeld.1 b4), (keepR (W := W3) hHeld.2 b4)⟩ (fun hHeld => ?_)
  clear hK K
  try simp only [Act.put, pq]
  have z4 := b4.size
  have B4 := Ke.b B3 b4
  refine Ke.q 8 ?_; try simp only [Act.put, pq]
  refine Ke.q 9 ?_; try simp only [Act.put, pq]
  refine wpAnyH_done (by kernel_rfl) ?_ _
  clear hHeld
  go_wp2
  go_ret
  exact ⟨by rw [HD.out]; rfl, B4.out⟩
 ·refine Ke.p 5 ?_; try simp only [Act.put, pq]
  refine Ke.p 6 ?_; try simp only [Act.put, pq]
  refine Ke.p 7 ?_; try simp only [Act.put, pq]
  refine Ke.q 8 ?_; try simp only [Act.put, pq]
  refine Ke.q 9 ?_; try simp only [Act.put, pq]
  refine wpAnyH_done (by kernel_rfl) ?_ _
  clear hHeld
  go_wp2
  go_ret
  exact ⟨by rw [HD.out]; rfl, B3.out⟩
set_option maxRecDepth 1000000 in
theorem mirrorok_spec (w : World) (v vb vt : Value) (m : Mr) (t : List Hd) (hs : Sl w v (ss m.st.l)) (hb : Sl w vb (bs m.st.b)) (hby : Byt m.st.b) (hst : Sh w vt t) (hl : m.st.l.length ≤ 1000000000) (hbl : m.st.b.length ≤ 1000000000) (htl : t.length ≤ 1000000000) (hz : ∀ s ∈ m.st.l, s.size ≤ 10000000000) :
  Calls Tryz.prog 13 #[.agg #[.int .i64 m.id, v, .int .i64 m.st.h.n, .string m.st.h.r, vb, .int .i64 m.st.s, .int .i64 m.b.n, .string m.b.r], vt] w fun e w' => e = .returned (.bool (mirrorOk m t)) ∧ Below w.heap.size w w' := by
 obtain ⟨R, hR⟩ : ∃ R, mirrorOk m t = R := ⟨_, rfl⟩
 have HR : Hid (mirrorOk m t = R) := hR
 rw [hR]
 obtain ⟨id, ⟨l, h, b, s⟩, g⟩ := m
 simp only at *
 have HS : Hid (Sl w v (ss l)) := hs
 have HSB : Hid (Sl w vb (bs b)) := hb
 have HBY : Hid (Byt b) := hby
 have HT : Hid (Sh w vt t) := hst
 have HZ0 : True := trivial
 have HZ1 : True := trivial
 obtain ⟨ao0, cap0, rfl, hc0⟩ := hs.form
 obtain ⟨ao1, cap1, rfl, hc1⟩ := hb.form
 obtain ⟨ao2, cap2, rfl, hc2⟩ := hst.form
 simp only [ss_len, bs_len] at *
 clear hs hb hby hst hR
 have B0 : Hid (Below w.heap.size w w) := Below.refl _ _
 obtain ⟨W1, HW1, b1, y1, hS1, r_a1⟩ := Ke.l1 w #[.int .i64 id, .slice ao0 l.length cap0, .int .i64 h.n, .string h.r, .slice ao1 b.length cap1, .int .i64 s, .int .i64 g.n, .string g.r] 32
 have z1 := b1.size
 have B1 := Ke.b B0 b1
 have c_a1 := Ke.c r_a1
 have q1 : ∀ W v1 v2, Sl W v1 (ss l) → Sl W v2 (bs b) → _ := fun W v1 v2 h1 h2 => storeok_spec W v1 v2 ⟨l, h, b, s⟩ h1 h2 HBY.out hl hbl hz
 obtain ⟨A, hA⟩ : ∃ A, storeOk ⟨l, h, b, s⟩ = A := ⟨_, rfl⟩
 simp only [hA] at q1
 have q2 : ∀ W, _ := fun W => He.ok_spec W g
 obtain ⟨B, hB⟩ : ∃ B, okH g = B := ⟨_, rfl⟩
 simp only [hB] at q2
 have q3 : ∀ W v1, Sh W v1 t → _ := fun W v1 h1 => known_spec W v1 t g h1 htl
 obtain ⟨C, hC⟩ : ∃ C, known t g = C := ⟨_, rfl⟩
 simp only [hC] at q3
 have q4 : ∀ W v1, Sh W v1 t → _ := fun W v1 h1 => known_spec W v1 t h h1 htl
 obtain ⟨D, hD⟩ : ∃ D, known t h = D := ⟨_, rfl⟩
 simp only [hD] at q4
 obtain ⟨I, hI⟩ : ∃ I, decide (0 ≤ id ∧ id ≤ 20) = I := ⟨_, rfl⟩
 have q0 : ∀ W, _ := fun W => in6 W id 0 20
 simp only [hI] at q0
 have HD : Hid (R = (I && A && B && C && D)) := by show _ = _; rw [← HR.out]; unfold mirrorOk; simp only; rw [hI, hA, hB, hC, hD]
 clear HR hI hA hB hC hD hz
 go_enter Tryz.func13, Tryz.ntmps13
 go_wp2_with fail
 rw [HW1.out]
 refine (q0 W1).mono ?_
 rintro e W_ ⟨rfl, hW_⟩
 subst hW_
 clear q0
 cases I
 ·go_wp2
  go_ret
  exact ⟨by rw [HD.out]; simp, B1.out⟩
 ·go_wp2_with fail
  refine (q1 W1 _ _ (HS.out.later B1.out) (HSB.out.later B1.out)).mono ?_
  rintro e W2 ⟨rfl, b2⟩
  have z2 := b2.size
  have B2 := Ke.b B1 b2
  have r_a2 := Ke.r r_a1 b2
  have c_a2 := Ke.c r_a2
  clear r_a1 c_a1
  cases A
  ·go_wp2
   go_ret
   exact ⟨by rw [HD.out]; simp, B2.out⟩
  ·go_wp2_with fail
   refine (q2 W2).mono ?_
   rintro e W3 ⟨rfl, b3⟩
   have z3 := b3.size
   have B3 := Ke.b B2 b3
   have r_a3 := Ke.r r_a2 b3
   have c_a3 := Ke.c r_a3
   clear r_a2 c_a2
   cases B
   ·go_wp2
    go_ret
    exact ⟨by rw [HD.out]; simp, B3.out⟩
   ·go_wp2_with fail
    refine (q3 W3 _ (HT.out.later B3.out)).mono ?_
    rintro e W4 ⟨rfl, b4⟩
    have z4 := b4.size
    have B4 := Ke.b B3 b4
    have r_a4 := Ke.r r_a3 b4
    have c_a4 := Ke.c r_a4
    clear r_a3 c_a3
    cases C
    ·go_wp2
     go_ret
     exact ⟨by rw [HD.out]; simp, B4.out⟩
    ·go_wp2_with fail
     refine (q4 W4 _ (HT.out.later B4.out)).mono ?_
     rintro e W5 ⟨rfl, b5⟩
     have z5 := b5.size
     have B5 := Ke.b B4 b5
     clear r_a4 c_a4
     cases D
     ·go_wp2
      go_ret
      exact ⟨by rw [HD.out]; simp, B5.out⟩
     ·go_wp2
      go_ret
      exact ⟨by rw [HD.out]; simp, B5.out⟩
set_option maxRecDepth 1000000 in
theorem mcopy_spec (w : World) (v vb : Value) (m : Mr) (hs : Sl w v (ss m.st.l)) (hb : Sl w vb (bs m.st.b)) (hl : m.st.l.length ≤ 1000000000) (hbl : m.st.b.length ≤ 1000000000) :
  Calls Tryz.prog 45 #[.agg #[.int .i64 m.id, v, .int .i64 m.st.h.n, .string m.st.h.r, vb, .int .i64 m.st.s, .int .i64 m.b.n, .string m.b.r]] w fun e w' => ∃ v' vb', e = .returned (.agg #[.int .i64 m.id, v', .int .i64 m.st.h.n, .string m.st.h.r, vb', .int .i64 m.st.s, .int .i64 m.b.n, .string m.b.r]) ∧ Own w' w.heap.size w'.heap.size 9 v' (ss m.st.l) ∧ Own w' w.heap.size w'.heap.size 5 vb' (bs m.st.b) ∧ Below w.heap.size w w' := by
 obtain ⟨id, ⟨l, h, b, s⟩, g⟩ := m
 simp only at *
 have HS : Hid (Sl w v (ss l)) := hs
 have HSB : Hid (Sl w vb (bs b)) := hb
 obtain ⟨ao0, cap0, rfl, hc0⟩ := hs.form
 obtain ⟨ao1, cap1, rfl, hc1⟩ := hb.form
 simp only [ss_len, bs_len] at *
 clear hs hb
 have B0 : Hid (Below w.heap.size w w) := Below.refl _ _
 obtain ⟨W1, HW1, b1, y1, hS1, r_a1, r_res1⟩ := Ke.l2 w #[.int .i64 id, .slice ao0 l.length cap0, .int .i64 h.n, .string h.r, .slice ao1 b.length cap1, .int .i64 s, .int .i64 g.n, .string g.r] 32 #[.int .i64 0, .slice none 0 0, .int .i64 0, .string ⟨#[]⟩, .slice none 0 0, .int .i64 0, .int .i64 0, .string ⟨#[]⟩] 32
 have z1 := b1.size
 have B1 := Ke.b B0 b1
 have c_a1 := Ke.c r_a1
 have q1 : ∀ W v1 v2, Sl W v1 (ss l) → Sl W v2 (bs b) → _ := fun W v1 v2 h1 h2 => Sr.copy_spec W v1 v2 ⟨l, h, b, s⟩ h1 h2 hl hbl
 simp only at q1
 go_enter Tryz.func45, Tryz.ntmps45
 go_wp2_with fail
 rw [HW1.out]
 refine wp_region_held_drew (S := fun w' => w'.cell? ⟨w.heap.size, 0, none⟩ = some (.int .i64 id) ∧ w'.cell? ⟨w.heap.size, 1, none⟩ = some (.slice ao0 l.length cap0) ∧ w'.cell? ⟨w.heap.size, 2, none⟩ = some (.int .i64 h.n) ∧ w'.cell? ⟨w.heap.size, 3, none⟩ = some (.string h.r) ∧ w'.cell? ⟨w.heap.size, 4, none⟩ = some (.slice ao1 b.length cap1) ∧ w'.cell? ⟨w.heap.size, 5, none⟩ = some (.int .i64 s) ∧ w'.cell? ⟨w.heap.size, 6, none⟩ = some (.int .i64 g.n) ∧ w'.cell? ⟨w.heap.size, 7, none⟩ = some (.string g.r)) (by kernel_rfl) ⟨(c_a1 0), (c_a1 1), (c_a1 2), (c_a1 3), (c_a1 4), (c_a1 5), (c_a1 6), (c_a1 7)⟩ (fun hHeld => ?_)
 refine Ke.q 0 ?_; try simp only [Act.put, pq]
 refine Ke.q 1 ?_; try simp only [Act.put, pq]
 refine Ke.q 2 ?_; try simp only [Act.put, pq]
 refine Ke.q 3 ?_; try simp only [Act.put, pq]
 refine Ke.q 5 ?_; try simp only [Act.put, pq]
 refine Ke.q 6 ?_; try simp only [Act.put, pq]
 refine Ke.z 4 rfl (fun K hK => ?_)
 go_simp
 refine (q1 W1.drew _ _ (Sl.later (w := W1) (HS.out.later B1.out) (Below.drew (Below.refl _ _))) (Sl.later (w := W1) (HSB.out.later B1.out) (Below.drew (Below.refl _ _)))).mono ?_
 rintro e W2 ⟨v_s, v_p, rfl, o_s2, o_p2, b2⟩
 have b2 : Below W1.heap.size W1 W2 := (Below.drew (Below.refl _ _)).trans b2
 have o_s2 : Own W2 W1.heap.size W2.heap.size 9 _ _ := o_s2
 have o_p2 : Own W2 W1.heap.size W2.heap.size 5 _ _ := o_p2
 refine hK.out _ _ ⟨(keepR (W := W1) hHeld.1 b2), (keepR (W := W1) hHeld.2.1 b2), (keepR (W := W1) hHeld.2.2.1 b2), (keepR (W := W1) hHeld.2.2.2.1 b2), (keepR (W := W1) hHeld.2.2.2.2.1 b2), (keepR (W := W1) hHeld.2.2.2.2.2.1 b2), (keepR (W := W1) hHeld.2.2.2.2.2.2.1 b2), (keepR (W := W1) hHeld.2.2.2.2.2.2.2 b2)⟩ (fun hHeld => ?_)
 clear hK K
 try simp only [Act.put, pq]
 obtain ⟨lo_s, hi_s, lo_p, hi_p, d1_s, d2_s, d3_s, d4_s, d5_s, d6_s, d7_s, oo_s, oo_p⟩ := Sr.pairN o_s2 o_p2 b2.size
 clear o_s2 o_p2
 obtain ⟨ao_s, L_s, cap_s, rfl, _, _⟩ := oo_s.form
 obtain ⟨ao_p, L_p, cap_p, rfl, _, _⟩ := oo_p.form
 have o_s2 : Hid (Own W2 lo_s hi_s 9 (.slice ao_s L_s cap_s) (ss l)) := oo_s
 have o_p2 : Hid (Own W2 lo_p hi_p 5 (.slice ao_p L_p cap_p) (bs b)) := oo_p
 clear oo_s oo_p
 have z2 := b2.size
 have B2 := Ke.b B1 b2
 have r_res2 := Ke.r r_res1 b2
 clear r_a1 c_a1 r_res1
 refine Ke.q 7 ?_; try simp only [Act.put, pq]
 refine Ke.z 8 rfl (fun K hK => ?_)
 rw [if_pos (by rfl)]
 refine wp_store_row 32 _ _ rfl (w.heap.size + 1) (mq id (.slice ao_s L_s cap_s) h (.slice ao_p L_p cap_p) s g) rfl rfl 32 _ r_res2.out (sizeQ _ _ _ _ _ _) rfl (oneQ _ _ _ _ rfl rfl) ?_
 refine hK.out _ _ ⟨(cell_row (by show w.heap.size ≠ w.heap.size + 1; omega) hHeld.1), (cell_row (by show w.heap.size ≠ w.heap.size + 1; omega) hHeld.2.1), (cell_row (by show w.heap.size ≠ w.heap.size + 1; omega) hHeld.2.2.1), (cell_row (by show w.heap.size ≠ w.heap.size + 1; omega) hHeld.2.2.2.1), (cell_row (by show w.heap.size ≠ w.heap.size + 1; omega) hHeld.2.2.2.2.1), (cell_row (by show w.heap.size ≠ w.heap.size + 1; omega) hHeld.2.2.2.2.2.1), (cell_row (by show w.heap.size ≠ w.heap.size + 1; omega) hHeld.2.2.2.2.2.2.1), (cell_row (by show w.heap.size ≠ w.heap.size + 1; omega) hHeld.2.2.2.2.2.2.2)⟩ (fun hHeld => ?_)
 clear hK K
 refine wpAnyH_done (by kernel_rfl) ?_ _
 clear hHeld
 go_wp2
 exact bodyPost_ret (v := .agg (mq id (.slice ao_s L_s cap_s) h (.slice ao_p L_p cap_p) s g)) (results_cell_row rfl _ _ (w.heap.size + 1) 32 _ (0, 0) _ rfl (setRow_heap _ _ _ _ _ (0, 0) r_res2.out) Tryz.underlying32 rfl (sizeQ _ _ _ _ _ _)) rfl ⟨_, _, rfl, (Own.setRow o_s2.out _ (by omega)).mono (by omega) (by rw [size_setRow]; omega), (Own.setRow o_p2.out _ (by omega)).mono (by omega) (by rw [size_setRow]; omega), below_setRow B2.out (by omega) _⟩
set_option maxRecDepth 1000000 in
theorem another_spec (w : World) (v vb : Value) (m : Mr) (to : Int) (hs : Sl w v (ss m.st.l)) (hb : Sl w vb (bs m.st.b)) :
  Calls Tryz.prog 120 #[.agg #[.int .i64 m.id, v, .int .i64 m.st.h.n, .string m.st.h.r, vb, .int .i64 m.st.s, .int .i64 m.b.n, .string m.b.r], .int .i64 to] w fun e w' => e = .returned (.bool (another m to)) ∧ Below w.heap.size w w' := by
 obtain ⟨R, hR⟩ : ∃ R, another m to = R := ⟨_, rfl⟩
 have HR : Hid (another m to = R) := hR
 rw [hR]
 obtain ⟨id, ⟨l, h, b, s⟩, g⟩ := m
 simp only at *
 have HS : Hid (Sl w v (ss l)) := hs
 have HSB : Hid (Sl w vb (bs b)) := hb
 obtain ⟨ao0, cap0, rfl, hc0⟩ := hs.form
 obtain ⟨ao1, cap1, rfl, hc1⟩ := hb.form
 simp only [ss_len, bs_len] at *
 clear hs hb hR
 have B0 : Hid (Below w.heap.size w w) := Below.refl _ _
 obtain ⟨W1, HW1, b1, y1, hS1, r_a1⟩ := Ke.l1 w #[.int .i64 id, .slice ao0 l.length cap0, .int .i64 h.n, .string h.r, .slice ao1 b.length cap1, .int .i64 s, .int .i64 g.n, .string g.r] 32
 have z1 := b1.size
 have B1 := Ke.b B0 b1
 have c_a1 := Ke.c r_a1
 obtain ⟨I, hI⟩ : ∃ I, decide (0 ≤ to ∧ to ≤ 20) = I := ⟨_, rfl⟩
 have q0 : ∀ W, _ := fun W => in6 W to 0 20
 simp only [hI] at q0
 have HD : Hid (R = (I && !decide (to = id))) := by show _ = _; rw [← HR.out]; unfold another; simp only; rw [hI]
 clear HR hI
 obtain ⟨J, hJ⟩ : ∃ J, decide (to = id) = J := ⟨_, rfl⟩
 have n1 : (to != id) = !J := by rw [← hJ]; by_cases h9 : to = id <;> simp [h9, bne_iff_ne]
 rw [hJ] at HD
 clear hJ
 go_enter Tryz.func120, Tryz.ntmps120
 go_wp2_with fail
 rw [HW1.out]
 refine (q0 W1).mono ?_
 rintro e W_ ⟨rfl, hW_⟩
 subst hW_
 clear q0
 cases I
 ·go_wp2
  go_ret
  exact ⟨by rw [HD.out]; rfl, B1.out⟩
 ·go_wp2
  go_ret
  exact ⟨by rw [HD.out]; simp, B1.out⟩
set_option maxRecDepth 1000000 in
theorem ask_spec (w : World) (v vb : Value) (m : Mr) (to : Int) (hs : Sl w v (ss m.st.l)) (hb : Sl w vb (bs m.st.b)) :
  Calls Tryz.prog 73 #[.agg #[.int .i64 m.id, v, .int .i64 m.st.h.n, .string m.st.h.r, vb, .int .i64 m.st.s, .int .i64 m.b.n, .string m.b.r], .int .i64 to] w fun e w' => ∃ v', e = .returned v' ∧ Om w' w.heap.size w'.heap.size v' (ask m to) ∧ Below w.heap.size w w' := by
 obtain ⟨R, hR⟩ : ∃ R, ask m to = R := ⟨_, rfl⟩
 have HR : Hid (ask m to = R) := hR
 rw [hR]
 obtain ⟨id, ⟨l, h, b, s⟩, g⟩ := m
 simp only at *
 have HS : Hid (Sl w v (ss l)) := hs
 have HSB : Hid (Sl w vb (bs b)) := hb
 obtain ⟨ao0, cap0, rfl, hc0⟩ := hs.form
 obtain ⟨ao1, cap1, rfl, hc1⟩ := hb.form
 simp only [ss_len, bs_len] at *
 clear hs hb hR
 have B0 : Hid (Below w.heap.size w w) := Below.refl _ _
 obtain ⟨W1, HW1, b1, y1, hS1, r_a1⟩ := Ke.l1 w #[.int .i64 id, .slice ao0 l.length cap0, .int .i64 h.n, .string h.r, .slice ao1 b.length cap1, .int .i64 s, .int .i64 g.n, .string g.r] 32
 have z1 := b1.size
 have B1 := Ke.b B0 b1
 have q1 : ∀ W v1 v2, Sl W v1 (ss l) → Sl W v2 (bs b) → _ := fun W v1 v2 h1 h2 => another_spec W v1 v2 ⟨id, ⟨l, h, b, s⟩, g⟩ to h1 h2
 obtain ⟨A, hA⟩ : ∃ A, another ⟨id, ⟨l, h, b, s⟩, g⟩ to = A := ⟨_, rfl⟩
 simp only [hA] at q1
 have HD : Hid (R = if A = true then (if (l.length : Int) < g.n then [⟨2, id, to, g, (l.length : Int), []⟩] else []) else []) := by show _ = _; rw [← HR.out]; unfold ask ask1; simp only; rw [hA]
 clear HR hA
 go_enter Tryz.func73, Tryz.ntmps73
 go_wp2_with fail
 rw [HW1.out]
 refine (q1 W1 _ _ (HS.out.later B1.out) (HSB.out.later B1.out)).mono ?_
 rintro e W2 ⟨rfl, b2⟩
 have z2 := b2.size
 have B2 := Ke.b B1 b2
 have r_a2 := Ke.r r_a1 b2
 have c_a2 := Ke.c r_a2
 clear r_a1
 cases A
 ·have HN : Hid (R = []) := by show _ = _; rw [HD.out]; rfl
  go_wp2
  go_ret
  refine ⟨_, rfl, ?_, B2.out.alloc B2.out.size _⟩
  rw [HN.out]
  exact Om.nil _ _ _ _ _
 ·by_cases hle : g.n ≤ (l.length : Int)
  ·have HN : Hid (R = []) := by show _ = _; rw [HD.out, if_pos rfl, if_neg (by omega)]
   go_wp2
   go_ret
   refine ⟨_, rfl, ?_, B2.out.alloc B2.out.size _⟩
   rw [HN.out]
   exact Om.nil _ _ _ _ _
  ·have HN : Hid (R = [⟨2, id, to, g, (l.length : Int), []⟩]) := by show _ = _; rw [HD.out, if_pos rfl, if_pos (by omega)]
   go_wp2
   go_ret
   refine ⟨_, rfl, ?_, B2.out.alloc B2.out.size _⟩
   rw [HN.out]
   exact Om.one0 ⟨2, id, to, g, (l.length : Int), []⟩ rfl (by omega)
end Go.Proofs.YtchonoonclllbaaGreatDoor.Mi
