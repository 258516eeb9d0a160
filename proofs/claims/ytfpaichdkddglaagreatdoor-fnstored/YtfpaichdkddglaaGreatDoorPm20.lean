/- Texts in one: SrE, SrF. -/
import Derived.Test.YtfpaichdkddglaaGreatDoorPm19
import Derived.Test.YtfpaichdkddglaaGreatDoorPm13
import Derived.Test.YtfpaichdkddglaaGreatDoorPm10
import Derived.Test.YtfpaichdkddglaaGreatDoorPm18
namespace Go.Proofs.YtfpaichdkddglaaGreatDoor.Sr
open Go.RowKit Go.Proofs.YtfpaichdkddglaaGreatDoor.Mem Go.Proofs.YtfpaichdkddglaaGreatDoor.Laws Go.Proofs.YtfpaichdkddglaaGreatDoor.Bytes Go.Proofs.YtfpaichdkddglaaGreatDoor.Sha Go.Proofs.YtfpaichdkddglaaGreatDoor.Tr Go.Proofs.YtfpaichdkddglaaGreatDoor.He Go.Proofs.YtfpaichdkddglaaGreatDoor.Lg
set_option linter.unusedVariables false
set_option linter.unusedSimpArgs false
theorem replay_step {xs : List Int} {a : Nat} {l : List ByteArray} {hd : Hd} {R : List ByteArray × Hd × Bool} {h : Hd} {x : List ByteArray} {p : Int} {ok : Bool} (hlt : a < xs.length) (hg : getC xs (a : Int) = (h, x, p, ok))
  (hf : ∃ f, xs.length - a ≤ f ∧ replayF f xs a l hd = R) :
  (¬ (ok = true ∧ l.length + x.length ≤ 200) → R = (l, hd, false)) ∧
  (ok = true → l.length + x.length ≤ 200 → eqH h (headOf (l ++ x)) = false → R = (l ++ x, h, false)) ∧
  (Byt xs → ok = true → l.length + x.length ≤ 200 → eqH h (headOf (l ++ x)) = true → ∃ q : Nat, p = (q : Int) ∧ a < q ∧ q ≤ xs.length ∧ (∀ s ∈ x, s.size ≤ 1000000000) ∧ ∃ f, xs.length - q ≤ f ∧ replayF f xs q (l ++ x) h = R) := by
 obtain ⟨f, hf1, hf2⟩ := hf
 obtain ⟨f, rfl⟩ : ∃ k, f = k + 1 := ⟨f - 1, by omega⟩
 rw [replayF, if_pos hlt, hg] at hf2
 simp only at hf2
 refine ⟨fun hn => ?_, fun h1 h2 h3 => ?_, fun hb h1 h2 h3 => ?_⟩
 ·
  rw [if_neg hn] at hf2; exact hf2.symm
 ·
  rw [if_pos ⟨h1, h2⟩, if_neg (by simp [h3])] at hf2; exact hf2.symm
 ·
  subst h1
  rw [if_pos ⟨rfl, h2⟩, if_pos h3] at hf2
  obtain ⟨q, rfl, hq, hqx, _, _, _, hbl, _⟩ := put_get hb hg
  have hp := put_pos h x
  exact ⟨q, rfl, by omega, hqx, fun s hs => Nat.le_trans (size_body (h := h) hs) hbl, f, by omega, hf2⟩
theorem replay_end {xs : List Int} {a : Nat} {l : List ByteArray} {hd : Hd} {R : List ByteArray × Hd × Bool} (hlt : ¬ a < xs.length) (hf : ∃ f, xs.length - a ≤ f ∧ replayF f xs a l hd = R) : R = (l, hd, true) := by
 obtain ⟨f, _, hf2⟩ := hf
 cases f with
 | zero => exact hf2.symm
 | succ f => rw [replayF, if_neg hlt] at hf2; exact hf2.symm
theorem getC_len (xs : List Int) (a : Int) : (getC xs a).2.1.length ≤ 200 := by
 unfold getC
 split
 ·
  split
  ·
   rename_i h x hi
   split
   ·
    unfold inBody at hi
    split at hi
    ·
     simp only [Option.some.injEq, Prod.mk.injEq] at hi
     rw [← hi.2]
     exact Plain.getTexts_len _ _
    ·
     cases hi
   ·
    exact Nat.zero_le _
  ·
   exact Nat.zero_le _
 ·
  exact Nat.zero_le _
theorem getC_size {xs : List Int} {a : Nat} {h : Hd} {x : List ByteArray} {p : Int} {ok : Bool} (hb : Byt xs) (hg : getC xs (a : Int) = (h, x, p, ok)) : ∀ s ∈ x, s.size ≤ 1000000000 := by
 cases ok
 ·
  have := getC_no (xs := xs) (a := (a : Int)) (by rw [hg])
  rw [hg] at this
  simp only [no12, Prod.mk.injEq] at this
  rw [this.2.1]
  intro s hs
  cases hs
 ·
  obtain ⟨_, _, _, _, _, _, _, hbl, _⟩ := put_get hb hg
  exact fun s hs => Nat.le_trans (size_body (h := h) hs) hbl
theorem ownNil (w : World) (lo hi : Nat) (e : TypeId) : Own w lo hi e (.slice none 0 0) [] := ⟨⟨rfl, Or.inl ⟨rfl, rfl⟩⟩, fun g hg => by simp [Value.ownBlock] at hg⟩
set_option maxRecDepth 1000000 in
set_option maxHeartbeats 8000000 in
theorem replay_spec (w : World) (v : Value) (xs : List Int) (hs : Sl w v (bs xs)) (hb : Byt xs) (hx : xs.length ≤ 1000000000000) :
  Calls Tryz.prog 69 #[v] w fun e w' => ∃ v', e = .returned (.tuple #[.agg #[v', .int .i64 (replay xs).2.1.n, .string (replay xs).2.1.r], .bool (replay xs).2.2]) ∧ Own w' w.heap.size w'.heap.size 9 v' (ss (replay xs).1) ∧ Below w.heap.size w w' := by
 obtain ⟨R, hR⟩ : ∃ R, replay xs = R := ⟨_, rfl⟩
 have HF0 : Hid (∃ f, xs.length - 0 ≤ f ∧ replayF f xs 0 [] (headOf []) = R) := ⟨xs.length, by omega, hR⟩
 rw [hR]
 have HS : Hid (Sl w v (bs xs)) := hs
 have HBY : Hid (Byt xs) := hb
 obtain ⟨ao0, cap0, rfl, hc0⟩ := hs.form
 rw [bs_len] at *
 clear hs hb hR
 have B0 : Hid (Below w.heap.size w w) := Below.refl _ _
 obtain ⟨i9, hi9, hz9a, hz9b, hz9c⟩ := info_parts info9t
 obtain ⟨W1, HW1, b1, y1, hS1, r_res1⟩ : ∃ X, Hid ((w.alloc (.cells #[.slice none 0 0, .int .i64 0, .string ⟨#[]⟩] 31)) = X) ∧ Below w.heap.size w X ∧ w.heap.size + 1 ≤ X.heap.size ∧ Hid (X.heap.size = w.heap.size + 1) ∧ Hid (X.heap[w.heap.size]? = some (.cells #[.slice none 0 0, .int .i64 0, .string ⟨#[]⟩] 31 (0, 0))) := ⟨_, rfl, ((Below.refl _ _).alloc (Nat.le_refl _) _), by simp, by show _ = _; simp, (by show _ = _; exact alloc_nth1_0 w _)⟩
 have B1 : Hid (Below w.heap.size w W1) := B0.out.trans (b1.mono B0.out.size)
 have q0 : ∀ W, _ := fun W => lognew_spec W
 obtain ⟨M, hM⟩ : ∃ M, headOf [] = M := ⟨_, rfl⟩
 simp only [hM] at q0
 rw [hM] at HF0
 clear hM
 have qg : ∀ W, Below w.heap.size w W → ∀ a : Nat, a ≤ xs.length → _ := fun W hW a ha => get_spec W _ xs (a : Int) (HS.out.later hW) HBY.out hx (by omega) (by omega)
 have qo : ∀ W v1 l1, Sl W v1 (ss l1) → l1.length ≤ 1000 → (∀ s ∈ l1, s.size ≤ 1000000000) → _ := fun W v1 l1 h1 h2 h3 => headOf_spec W v1 l1 h1 (by omega) (fun s hs => by have := h3 s hs; omega)
 go_enter Tryz.func69, Tryz.ntmps69
 go_wp2_with fail
 rw [HW1.out]
 refine (q0 W1).mono ?_
 rintro e W2 ⟨rfl, b2⟩
 have z2 : W1.heap.size ≤ W2.heap.size := b2.size
 have B2 : Hid (Below w.heap.size w W2) := B1.out.trans (b2.mono B1.out.size)
 have r_res2 : Hid (W2.heap[w.heap.size]? = some (.cells #[.slice none 0 0, .int .i64 0, .string ⟨#[]⟩] 31 (0, 0))) := rowKeep r_res1.out b2
 clear r_res1
 obtain ⟨W3, HW3, b3, y3, hS3, r_l3⟩ : ∃ X, Hid ((W2.alloc (.cells #[.slice none 0 0, .int .i64 M.n, .string M.r] 31)) = X) ∧ Below W2.heap.size W2 X ∧ W2.heap.size + 1 ≤ X.heap.size ∧ Hid (X.heap.size = W2.heap.size + 1) ∧ Hid (X.heap[W2.heap.size]? = some (.cells #[.slice none 0 0, .int .i64 M.n, .string M.r] 31 (0, 0))) := ⟨_, rfl, ((Below.refl _ _).alloc (Nat.le_refl _) _), by simp, by show _ = _; simp, (by show _ = _; exact alloc_nth1_0 W2 _)⟩
 have B3 : Hid (Below w.heap.size w W3) := B2.out.trans (b3.mono B2.out.size)
 have r_res3 : Hid (W3.heap[w.heap.size]? = some (.cells #[.slice none 0 0, .int .i64 0, .string ⟨#[]⟩] 31 (0, 0))) := rowKeep r_res2.out b3
 clear r_res2
 go_wp2_with fail
 rw [HW3.out]
 go_loopw [5] (fun iv wr => ∃ (a : Nat) (l : List ByteArray) (hd : Hd) (ao : Option Addr) (L cap : Nat), a ≤ xs.length ∧ iv = .int .i64 (a : Int) ∧ Hid (∃ f, xs.length - a ≤ f ∧ replayF f xs a l hd = R) ∧ Hid (wr.heap[W2.heap.size]? = some (.cells #[.slice ao L cap, .int .i64 hd.n, .string hd.r] 31 (0, 0))) ∧ Hid (wr.heap[w.heap.size]? = some (.cells #[.slice none 0 0, .int .i64 0, .string ⟨#[]⟩] 31 (0, 0))) ∧ Hid (Own wr W3.heap.size wr.heap.size 9 (.slice ao L cap) (ss l)) ∧ Hid (Below w.heap.size w wr) ∧ W3.heap.size ≤ wr.heap.size ∧ l.length ≤ 200 ∧ Hid (∀ s ∈ l, s.size ≤ 1000000000)) (fun iv _ => xs.length - (intOf iv).toNat)
 case atStart => exact ⟨0, [], M, none, 0, 0, Nat.zero_le _, rfl, HF0, r_l3, r_res3, ownNil _ _ _ _, B3, Nat.le_refl _, Nat.zero_le _, fun s hs => by cases hs⟩
 case round =>
  obtain ⟨a, l, hd, ao_v, L_v, cap_v, ha, rfl, HF, r_l4, r_res4, o_v4, B4, z4, hl2, HZ⟩ := hrel
  obtain ⟨W4, hW4⟩ : ∃ X, X = wr := ⟨_, rfl⟩
  subst hW4
  clear HF0 r_l3 r_res3
  have hLv : L_v ≤ l.length ∧ l.length ≤ L_v := by obtain ⟨a9, L9, c9, he, h1, h2⟩ := Mem.Own.form o_v4.out; injection he with _ he2 _; rw [ss_len] at h1 h2; omega
  by_cases hlt : a < xs.length
  ·
   have q2 := qg W4 B4.out a ha
   obtain ⟨h, x, p, ok, hg⟩ : ∃ h x p ok, getC xs (a : Int) = (h, x, p, ok) := ⟨_, _, _, _, rfl⟩
   unfold GotC at q2
   rw [hg] at q2
   simp only at q2
   obtain ⟨S1, S2, S3⟩ := replay_step hlt hg HF.out
   have H1 : Hid _ := S1
   have H2 : Hid _ := S2
   have H3 : Hid _ := S3
   have hx2 : x.length ≤ 200 := by
    have h9 := getC_len xs (a : Int)
    rw [hg] at h9
    exact h9
   have H4 : Hid (getC xs (a : Int) = (h, x, p, ok)) := hg
   clear S1 S2 S3 HF hg
   go_wp2_with fail
   refine (q2).mono ?_
   rintro e W5 ⟨v_t, rfl, o_t5, b5⟩
   obtain ⟨ao_t, L_t, cap_t, rfl, hL_t, hM_t⟩ := o_t5.form
   have o_t5 : Hid (Own W5 W4.heap.size W5.heap.size 9 (.slice ao_t L_t cap_t) (ss x)) := o_t5
   clear hL_t hM_t
   have z5 : W4.heap.size ≤ W5.heap.size := b5.size
   have B5 : Hid (Below w.heap.size w W5) := B4.out.trans (b5.mono B4.out.size)
   have r_l5 : Hid (W5.heap[W2.heap.size]? = some (.cells #[.slice ao_v L_v cap_v, .int .i64 hd.n, .string hd.r] 31 (0, 0))) := rowKeep r_l4.out b5
   have r_res5 : Hid (W5.heap[w.heap.size]? = some (.cells #[.slice none 0 0, .int .i64 0, .string ⟨#[]⟩] 31 (0, 0))) := rowKeep r_res4.out b5
   have o_v5 : Hid (Own W5 (W3.heap.size) (W4.heap.size) 9 (.slice ao_v L_v cap_v) (ss l)) := Own.later o_v4.out b5 (by omega)
   have c_l5_0 : W5.cell? ⟨W2.heap.size, 0, none⟩ = some (.slice ao_v L_v cap_v) := row_at r_l5.out 0
   clear r_l4 r_res4 o_v4
   have hLt : L_t ≤ x.length ∧ x.length ≤ L_t := by obtain ⟨a9, L9, c9, he, h1, h2⟩ := Mem.Own.form o_t5.out; injection he with _ he2 _; rw [ss_len] at h1 h2; omega
   clear q2
   have a_l5_0 : ∀ o, (W5.alloc o).cell? ⟨W2.heap.size, 0, none⟩ = some (.slice ao_v L_v cap_v) := fun o => keepR c_l5_0 ((Below.refl _ _).alloc (Nat.le_refl _) o)
   obtain ⟨W6, HW6, b6, y6, hS6, r_h6⟩ : ∃ X, Hid ((W5.alloc (.cells #[.int .i64 h.n, .string h.r] 28)) = X) ∧ Below W5.heap.size W5 X ∧ W5.heap.size + 1 ≤ X.heap.size ∧ Hid (X.heap.size = W5.heap.size + 1) ∧ Hid (X.heap[W5.heap.size]? = some (.cells #[.int .i64 h.n, .string h.r] 28 (0, 0))) := ⟨_, rfl, ((Below.refl _ _).alloc (Nat.le_refl _) _), by simp, by show _ = _; simp, (by show _ = _; exact alloc_nth1_0 W5 _)⟩
   have B6 : Hid (Below w.heap.size w W6) := B5.out.trans (b6.mono B5.out.size)
   have r_l6 : Hid (W6.heap[W2.heap.size]? = some (.cells #[.slice ao_v L_v cap_v, .int .i64 hd.n, .string hd.r] 31 (0, 0))) := rowKeep r_l5.out b6
   have r_res6 : Hid (W6.heap[w.heap.size]? = some (.cells #[.slice none 0 0, .int .i64 0, .string ⟨#[]⟩] 31 (0, 0))) := rowKeep r_res5.out b6
   have o_v6 : Hid (Own W6 (W3.heap.size) (W4.heap.size) 9 (.slice ao_v L_v cap_v) (ss l)) := Own.later o_v5.out b6 (by omega)
   have o_t6 : Hid (Own W6 (W4.heap.size) (W5.heap.size) 9 (.slice ao_t L_t cap_t) (ss x)) := Own.later o_t5.out b6 (by omega)
   clear r_l5 c_l5_0 r_res5 o_v5 o_t5
   cases ok
   ·
    have HN : Hid (R = (l, hd, false)) := H1.out (by simp)
    go_wp2_with (first | ((try rw [HW6.out]); refine wpList_load_row rfl 31 _ rfl (W2.heap.size) rfl 31 (lc (.slice ao_v L_v cap_v) hd) (0, 0) _ r_l6.out Tryz.underlying31 rfl (sizeL _ _) ?_) | (refine wpList_store_row rfl 31 _ _ rfl (w.heap.size) (lc (.slice ao_v L_v cap_v) hd) rfl rfl 31 _ r_res6.out (sizeL _ _) rfl (oneL _ rfl) ?_))
    refine bodyPost_ret (res_row_tmp rfl _ _ (w.heap.size) 31 (lc (.slice ao_v L_v cap_v) hd) (0, 0) _ rfl (setRow_heap _ _ _ _ _ (0, 0) r_res6.out) Tryz.underlying31 rfl (sizeL _ _)) rfl ⟨.slice ao_v L_v cap_v, by rw [HN.out]; rfl, ?_, below_setRow B6.out (by omega) _⟩
    rw [HN.out]
    exact (Own.setRow o_v6.out _ (by omega)).mono (by omega) (by rw [size_setRow]; omega)
   ·
    by_cases h200 : l.length + x.length ≤ 200
    ·
     have d200 : ¬ (200 : Int) < (L_v : Int) + (L_t : Int) := by omega
     have c6_7 : (ss l).length + (ss x).length ≤ maxLen := by rw [ss_len, ss_len]; unfold maxLen; (try simp only [List.length_nil]); omega
     have c7_7 : ((ss l).length + (ss x).length) * 16 ≤ 140737488355328 := by rw [ss_len, ss_len]; (try simp only [List.length_nil]); omega
     have sE7 : Hid (Sl W6 _ (ss x)) := o_t6.out.sl
     go_wp2_with (at_builtin; (try rw [HW6.out]); go_must (refine wpl_app _ rfl (.tmp 36) (.tmp 37) 24 rfl 9 i9 (.string ⟨#[]⟩) 16 Tryz.underlying24 hi9 hz9a hz9b hz9c rfl (W3.heap.size) _ (ss l) rfl (Own.mono o_v6.out (Nat.le_refl _) (by omega)) _ rfl (ss x) sE7.out (ss_one x) c6_7 c7_7 (by omega) ?_))
     intro v_n W7 o_n7 _ g7
     clear a_l5_0
     have o_n7 : Own W7 (W3.heap.size) W7.heap.size 9 v_n (ss (l ++ x)) := by show Own _ _ _ _ _ _; rw [ss_app]; exact o_n7
     have o_n7h : Hid (Own W7 (W3.heap.size) W7.heap.size 9 v_n (ss (l ++ x))) := o_n7
     clear o_n7
     have o_n7 := o_n7h
     clear o_n7h
     obtain ⟨ao_n, L_n, cap_n, rfl, _, _⟩ := Mem.Own.form o_n7.out
     have z7 : W6.heap.size ≤ W7.heap.size := g7.size
     have B7 : Hid (Below w.heap.size w W7) := belowGro B6.out g7 B6.out.size (Own.low o_v6.out (by have := B6.out.size; omega))
     have r_l7 : Hid (W7.heap[W2.heap.size]? = some (.cells #[.slice ao_v L_v cap_v, .int .i64 hd.n, .string hd.r] 31 (0, 0))) := rowGro r_l6.out g7 (Own.neRow o_v6.out r_l6.out (by decide))
     have r_res7 : Hid (W7.heap[w.heap.size]? = some (.cells #[.slice none 0 0, .int .i64 0, .string ⟨#[]⟩] 31 (0, 0))) := rowGro r_res6.out g7 (Own.neRow o_v6.out r_res6.out (by decide))
     have r_h7 : Hid (W7.heap[W5.heap.size]? = some (.cells #[.int .i64 h.n, .string h.r] 28 (0, 0))) := rowGro r_h6.out g7 (Own.neRow o_v6.out r_h6.out (by decide))
     clear r_l6 r_res6 r_h6 o_v6 o_t6
     clear g7 sE7 c6_7 c7_7
     go_wp2_with (refine wpl_oneG rfl 24 _ _ rfl (W2.heap.size) 0 (.slice ao_n L_n cap_n) rfl rfl [.slice ao_v L_v cap_v, .int .i64 hd.n, .string hd.r] 31 r_l7.out (Nat.le_of_ble_eq_true rfl) (by kernel_rfl) rfl [.slice ao_n L_n cap_n, .int .i64 hd.n, .string hd.r] rfl ?_)
     intro W8 r_l8 g8
     have r_l8 : Hid (W8.heap[W2.heap.size]? = some (.cells #[.slice ao_n L_n cap_n, .int .i64 hd.n, .string hd.r] 31 (0, 0))) := r_l8
     have z8 : W7.heap.size ≤ W8.heap.size := g8.size
     have B8 : Hid (Below w.heap.size w W8) := belowGro B7.out g8 B7.out.size (fun k9 h9 => by injection h9 with h9; have := B7.out.size; omega)
     have r_res8 : Hid (W8.heap[w.heap.size]? = some (.cells #[.slice none 0 0, .int .i64 0, .string ⟨#[]⟩] 31 (0, 0))) := rowGro r_res7.out g8 (fun h9 => by injection h9 with h9; omega)
     have r_h8 : Hid (W8.heap[W5.heap.size]? = some (.cells #[.int .i64 h.n, .string h.r] 28 (0, 0))) := rowGro r_h7.out g8 (fun h9 => by injection h9 with h9; omega)
     have o_n8 : Hid (Own W8 (W3.heap.size) (W7.heap.size) 9 (.slice ao_n L_n cap_n) (ss (l ++ x))) := Own.gro o_n7.out g8 (fun k9 h9 e9 => Own.neRow o_n7.out r_l7.out (by decide) (h9.trans e9.symm))
     have c_h8_0 : W8.cell? ⟨W5.heap.size, 0, none⟩ = some (.int .i64 h.n) := row_at r_h8.out 0
     have c_h8_1 : W8.cell? ⟨W5.heap.size, 1, none⟩ = some (.string h.r) := row_at r_h8.out 1
     clear r_res7 r_h7 o_n7
     clear r_l7
     clear g8
     go_wp2_with (refine wpl_partG rfl 28 _ _ rfl (W2.heap.size) 1 (hc h) rfl rfl [.slice ao_n L_n cap_n, .int .i64 hd.n, .string hd.r] 31 r_l8.out (Nat.le_of_ble_eq_true rfl) (sizeH _) (oneH _) [.slice ao_n L_n cap_n, .int .i64 h.n, .string h.r] rfl ?_)
     intro W9 r_l9 g9
     have r_l9 : Hid (W9.heap[W2.heap.size]? = some (.cells #[.slice ao_n L_n cap_n, .int .i64 h.n, .string h.r] 31 (0, 0))) := r_l9
     have z9 : W8.heap.size ≤ W9.heap.size := g9.size
     have B9 : Hid (Below w.heap.size w W9) := belowGro B8.out g9 B8.out.size (fun k9 h9 => by injection h9 with h9; have := B8.out.size; omega)
     have r_res9 : Hid (W9.heap[w.heap.size]? = some (.cells #[.slice none 0 0, .int .i64 0, .string ⟨#[]⟩] 31 (0, 0))) := rowGro r_res8.out g9 (fun h9 => by injection h9 with h9; omega)
     have r_h9 : Hid (W9.heap[W5.heap.size]? = some (.cells #[.int .i64 h.n, .string h.r] 28 (0, 0))) := rowGro r_h8.out g9 (fun h9 => by injection h9 with h9; omega)
     have o_n9 : Hid (Own W9 (W3.heap.size) (W7.heap.size) 9 (.slice ao_n L_n cap_n) (ss (l ++ x))) := Own.gro o_n8.out g9 (fun k9 h9 e9 => Own.neRow o_n8.out r_l8.out (by decide) (h9.trans e9.symm))
     have c_l9_0 : W9.cell? ⟨W2.heap.size, 0, none⟩ = some (.slice ao_n L_n cap_n) := row_at r_l9.out 0
     have c_l9_1 : W9.cell? ⟨W2.heap.size, 1, none⟩ = some (.int .i64 h.n) := row_at r_l9.out 1
     have c_l9_2 : W9.cell? ⟨W2.heap.size, 2, none⟩ = some (.string h.r) := row_at r_l9.out 2
     have c_h9_0 : W9.cell? ⟨W5.heap.size, 0, none⟩ = some (.int .i64 h.n) := row_at r_h9.out 0
     have c_h9_1 : W9.cell? ⟨W5.heap.size, 1, none⟩ = some (.string h.r) := row_at r_h9.out 1
     clear r_res8 r_h8 c_h8_0 c_h8_1 o_n8
     clear r_l8
     clear g9
     obtain ⟨M9, hM9⟩ : ∃ A, headOf (l ++ x) = A := ⟨_, rfl⟩
     obtain ⟨E, hE⟩ : ∃ A, eqH h M9 = A := ⟨_, rfl⟩
     have e1 : ∀ W, _ := fun W => neqH W h M9
     have e2 : ∀ W op y z xs ys, _ := fun W op y z xs ys => grdH W op y z xs ys
     simp only [hE] at e1
     have HE : Hid (eqH h (headOf (l ++ x)) = E) := by show _ = _; rw [hM9]; exact hE
     have HZX : Hid (E = true → ∀ s ∈ l ++ x, s.size ≤ 1000000000) := fun h9 => by
      obtain ⟨_, _, _, _, h5, _⟩ := H3.out HBY.out (by first | exact rfl | trivial) h200 (by rw [HE.out]; exact h9)
      exact size_app HZ.out h5
     have qq : ∀ W v1, Sl W v1 (ss (l ++ x)) → _ := fun W v1 h1 => qo W v1 (l ++ x) h1 (by rw [List.length_append]; omega) (size_app HZ.out (getC_size HBY.out H4.out))
     simp only [hM9] at qq
     clear hM9 hE
     go_wp2_with fail
     refine wp_region_held_drew (S := fun w' => w'.cell? ⟨W5.heap.size, 0, none⟩ = some (.int .i64 h.n) ∧ w'.cell? ⟨W5.heap.size, 1, none⟩ = some (.string h.r) ∧ w'.cell? ⟨W2.heap.size, 0, none⟩ = some (.slice ao_n L_n cap_n) ∧ w'.cell? ⟨W2.heap.size, 1, none⟩ = some (.int .i64 h.n) ∧ w'.cell? ⟨W2.heap.size, 2, none⟩ = some (.string h.r)) (by kernel_rfl) ⟨c_h9_0, c_h9_1, c_l9_0, c_l9_1, c_l9_2⟩ (fun hHeld => ?_)
     (refine wpAnyH_take (i := 0) (v := ?v0x1) rfl (by kernel_rfl) (by kernel_rfl) (by kernel_rfl) (fun _ _ _ h => h) (Or.inl ⟨by rfl, ?hy0x1⟩) (by assumption) ?rest0x1; case hy0x1 => (intro w hSw; (try dsimp only at hSw); go_split_ands; go_simp; (try with_reducible rfl)))
     try simp only [Act.put, pu1, pu2, pu3, pu4, pu5, pu6]
     (refine wpAnyH_take (i := 1) (v := ?v1x2) rfl (by kernel_rfl) (by kernel_rfl) (by kernel_rfl) (fun _ _ _ h => h) (Or.inl ⟨by rfl, ?hy1x2⟩) (by assumption) ?rest1x2; case hy1x2 => (intro w hSw; (try dsimp only at hSw); go_split_ands; go_simp; (try with_reducible rfl)))
     try simp only [Act.put, pu1, pu2, pu3, pu4, pu5, pu6]
     (refine wpAnyH_take (i := 2) (v := ?v2x3) rfl (by kernel_rfl) (by kernel_rfl) (by kernel_rfl) (fun _ _ _ h => h) (Or.inl ⟨by rfl, ?hy2x3⟩) (by assumption) ?rest2x3; case hy2x3 => (intro w hSw; (try dsimp only at hSw); go_split_ands; go_simp; (try with_reducible rfl)))
     try simp only [Act.put, pu1, pu2, pu3, pu4, pu5, pu6]
     refine wpAnyH_ready (rs := [3]) (by kernel_rfl) (by simp) ?_
     refine AllReadyH.cons rfl (fun K hK => ?_) AllReadyH.nil
     go_simp
     refine (qq W9.drew _ (Own.sl (w := W9) o_n9.out)).mono ?_
     rintro e W10 ⟨rfl, b10⟩
     have b10 : Below W9.heap.size W9 W10 := (Below.drew (Below.refl _ _)).trans b10
     refine hK.out _ _ ⟨(keepR (W := W9) hHeld.1 b10), (keepR (W := W9) hHeld.2.1 b10), (keepR (W := W9) hHeld.2.2.1 b10), (keepR (W := W9) hHeld.2.2.2.1 b10), (keepR (W := W9) hHeld.2.2.2.2 b10)⟩ (fun hHeld => ?_)
     clear hK K
     try simp only [Act.put, pu1, pu2, pu3, pu4, pu5, pu6]
     have z10 : W9.heap.size ≤ W10.heap.size := b10.size
     have B10 : Hid (Below w.heap.size w W10) := B9.out.trans (b10.mono B9.out.size)
     have r_l10 : Hid (W10.heap[W2.heap.size]? = some (.cells #[.slice ao_n L_n cap_n, .int .i64 h.n, .string h.r] 31 (0, 0))) := rowKeep r_l9.out b10
     have r_res10 : Hid (W10.heap[w.heap.size]? = some (.cells #[.slice none 0 0, .int .i64 0, .string ⟨#[]⟩] 31 (0, 0))) := rowKeep r_res9.out b10
     have o_n10 : Hid (Own W10 (W3.heap.size) (W7.heap.size) 9 (.slice ao_n L_n cap_n) (ss (l ++ x))) := Own.later o_n9.out b10 (by omega)
     clear r_l9 c_l9_0 c_l9_1 c_l9_2 r_res9 r_h9 c_h9_0 c_h9_1 o_n9
     (refine wpAnyH_take (i := 4) (v := ?v4x4) rfl (by kernel_rfl) (by kernel_rfl) (by kernel_rfl) (fun _ _ _ h => h) (Or.inl ⟨by rfl, ?hy4x4⟩) (by assumption) ?rest4x4; case hy4x4 => (intro w hSw; (try dsimp only at hSw); go_split_ands; go_simp; (try with_reducible rfl)))
     try simp only [Act.put, pu1, pu2, pu3, pu4, pu5, pu6]
     refine wpAnyH_done (by kernel_rfl) ?_ _
     clear hHeld
     cases E
     ·
      have HN : Hid (R = (l ++ x, h, false)) := H2.out (by first | exact rfl | trivial) h200 HE.out
      go_wp2_with (first | (refine wpList_load_row rfl 31 _ rfl (W2.heap.size) rfl 31 (lc (.slice ao_n L_n cap_n) h) (0, 0) _ r_l10.out Tryz.underlying31 rfl (sizeL _ _) ?_) | (refine wpList_store_row rfl 31 _ _ rfl (w.heap.size) (lc (.slice ao_n L_n cap_n) h) rfl rfl 31 _ r_res10.out (sizeL _ _) rfl (oneL _ rfl) ?_))
      refine bodyPost_ret (res_row_tmp rfl _ _ (w.heap.size) 31 (lc (.slice ao_n L_n cap_n) h) (0, 0) _ rfl (setRow_heap _ _ _ _ _ (0, 0) r_res10.out) Tryz.underlying31 rfl (sizeL _ _)) rfl ⟨.slice ao_n L_n cap_n, by rw [HN.out]; rfl, ?_, below_setRow B10.out (by omega) _⟩
      rw [HN.out]
      exact (Own.setRow o_n10.out _ (by omega)).mono (by omega) (by rw [size_setRow]; omega)
     ·
      obtain ⟨q, rfl, hq1, hq2, hq3, hq4⟩ := H3.out HBY.out (by first | exact rfl | trivial) h200 HE.out
      have HQ3 : Hid (∀ s ∈ x, s.size ≤ 1000000000) := hq3
      have HQ4 : Hid (∃ f, xs.length - q ≤ f ∧ replayF f xs q (l ++ x) h = R) := hq4
      clear hq3 hq4
      go_wp2
      go_roundw
      case rel => exact ⟨q, l ++ x, h, ao_n, L_n, cap_n, hq2, rfl, HQ4, r_l10, r_res10, Own.mono o_n10.out (by omega) (by omega), B10, by omega, by rw [List.length_append]; omega, size_app HZ.out HQ3.out⟩
      case measure => simp [intOf]; omega
    ·
     have d200 : (200 : Int) < (L_v : Int) + (L_t : Int) := by omega
     have HN : Hid (R = (l, hd, false)) := H1.out (fun h9 => h200 h9.2)
     go_wp2_with (first | ((try rw [HW6.out]); refine wpList_load_row rfl 31 _ rfl (W2.heap.size) rfl 31 (lc (.slice ao_v L_v cap_v) hd) (0, 0) _ r_l6.out Tryz.underlying31 rfl (sizeL _ _) ?_) | (refine wpList_store_row rfl 31 _ _ rfl (w.heap.size) (lc (.slice ao_v L_v cap_v) hd) rfl rfl 31 _ r_res6.out (sizeL _ _) rfl (oneL _ rfl) ?_))
     refine bodyPost_ret (res_row_tmp rfl _ _ (w.heap.size) 31 (lc (.slice ao_v L_v cap_v) hd) (0, 0) _ rfl (setRow_heap _ _ _ _ _ (0, 0) r_res6.out) Tryz.underlying31 rfl (sizeL _ _)) rfl ⟨.slice ao_v L_v cap_v, by rw [HN.out]; rfl, ?_, below_setRow B6.out (by omega) _⟩
     rw [HN.out]
     exact (Own.setRow o_v6.out _ (by omega)).mono (by omega) (by rw [size_setRow]; omega)
  ·
   have HN : Hid (R = (l, hd, true)) := replay_end hlt HF.out
   go_wp2_with (first | (refine wpList_load_row rfl 31 _ rfl (W2.heap.size) rfl 31 (lc (.slice ao_v L_v cap_v) hd) (0, 0) _ r_l4.out Tryz.underlying31 rfl (sizeL _ _) ?_) | (refine wpList_store_row rfl 31 _ _ rfl (w.heap.size) (lc (.slice ao_v L_v cap_v) hd) rfl rfl 31 _ r_res4.out (sizeL _ _) rfl (oneL _ rfl) ?_))
   refine bodyPost_ret (res_row_tmp rfl _ _ (w.heap.size) 31 (lc (.slice ao_v L_v cap_v) hd) (0, 0) _ rfl (setRow_heap _ _ _ _ _ (0, 0) r_res4.out) Tryz.underlying31 rfl (sizeL _ _)) rfl ⟨.slice ao_v L_v cap_v, by rw [HN.out]; rfl, ?_, below_setRow B4.out (by omega) _⟩
   rw [HN.out]
   exact (Own.setRow o_v4.out _ (by omega)).mono (by omega) (by rw [size_setRow]; omega)
theorem replayF_len (xs : List Int) : ∀ (f a : Nat) (l : List ByteArray) (hd : Hd), l.length ≤ 200 → (replayF f xs a l hd).1.length ≤ 200 := by
 intro f
 induction f with
 | zero => intro a l hd h; exact h
 | succ f ih =>
  intro a l hd h
  rw [replayF]
  split
  ·
   split
   ·
    rename_i hc
    split
    ·
     exact ih _ _ _ (by rw [List.length_append]; exact hc.2)
    ·
     rw [List.length_append]; exact hc.2
   ·
    exact h
  ·
   exact h
theorem replay_len (xs : List Int) : (replay xs).1.length ≤ 200 := replayF_len xs _ _ _ _ (Nat.zero_le _)
set_option maxRecDepth 1000000 in
set_option maxHeartbeats 4000000 in
theorem storeok_spec (w : World) (v vb : Value) (st : Sto) (hs : Sl w v (ss st.l)) (hb : Sl w vb (bs st.b)) (hby : Byt st.b) (hl : st.l.length ≤ 1000000000) (hbl : st.b.length ≤ 1000000000) (hz : ∀ s ∈ st.l, s.size ≤ 10000000000) :
  Calls Tryz.prog 38 #[.agg #[v, .int .i64 st.h.n, .string st.h.r, vb, .int .i64 st.s]] w fun e w' => e = .returned (.bool (storeOk st)) ∧ Below w.heap.size w w' := by
 obtain ⟨R, hR⟩ : ∃ R, storeOk st = R := ⟨_, rfl⟩
 have HR : Hid (storeOk st = R) := hR
 rw [hR]
 obtain ⟨l, h, b, s⟩ := st
 simp only at *
 have HS : Hid (Sl w v (ss l)) := hs
 have HSB : Hid (Sl w vb (bs b)) := hb
 have HBY : Hid (Byt b) := hby
 obtain ⟨ao0, cap0, rfl, hc0⟩ := hs.form
 obtain ⟨ao1, cap1, rfl, hc1⟩ := hb.form
 simp only [ss_len, bs_len] at *
 clear hs hb hby hR
 have B0 : Hid (Below w.heap.size w w) := Below.refl _ _
 obtain ⟨W1, HW1, b1, y1, hS1, r_a1⟩ : ∃ X, Hid ((w.alloc (.cells #[.slice ao0 l.length cap0, .int .i64 h.n, .string h.r, .slice ao1 b.length cap1, .int .i64 s] 37)) = X) ∧ Below w.heap.size w X ∧ w.heap.size + 1 ≤ X.heap.size ∧ Hid (X.heap.size = w.heap.size + 1) ∧ Hid (X.heap[w.heap.size]? = some (.cells #[.slice ao0 l.length cap0, .int .i64 h.n, .string h.r, .slice ao1 b.length cap1, .int .i64 s] 37 (0, 0))) := ⟨_, rfl, ((Below.refl _ _).alloc (Nat.le_refl _) _), by simp, by show _ = _; simp, (by show _ = _; exact alloc_nth1_0 w _)⟩
 have B1 : Hid (Below w.heap.size w W1) := B0.out.trans (b1.mono B0.out.size)
 have q1 : ∀ W v1, Sl W v1 (ss l) → _ := fun W v1 h1 => logok_spec W v1 l h h1 (by omega) hz
 obtain ⟨A, hA⟩ : ∃ A, logOk l h = A := ⟨_, rfl⟩
 simp only [hA] at q1
 have HA : Hid (logOk l h = A) := hA
 clear hA hz
 have q3 : ∀ W v1, Sl W v1 (bs b) → _ := fun W v1 h1 => replay_spec W v1 b h1 HBY.out (by omega)
 have hRl := replay_len b
 obtain ⟨E, hE⟩ : ∃ E, replay b = E := ⟨_, rfl⟩
 simp only [hE] at q3
 rw [hE] at hRl
 have HE : Hid (replay b = E) := hE
 obtain ⟨L, H, ok⟩ := E
 simp only at q3 hRl
 clear hE
 have HD : Hid (R = (A && decide (b.length ≤ 60000) && decide (0 ≤ s ∧ s ≤ (b.length : Int)) && ok && decide (L = l))) := by
  show _ = _
  rw [← HR.out]
  unfold storeOk
  simp only
  rw [HA.out, HE.out]
 go_enter Tryz.func38, Tryz.ntmps38
 go_wp2_with fail
 rw [HW1.out]
 refine (q1 W1 _ (HS.out.later B1.out)).mono ?_
 rintro e W2 ⟨rfl, b2⟩
 have B2 : Hid (Below w.heap.size w W2) := B1.out.trans (b2.mono B1.out.size)
 have r_a2 : Hid (W2.heap[w.heap.size]? = some (.cells #[.slice ao0 l.length cap0, .int .i64 h.n, .string h.r, .slice ao1 b.length cap1, .int .i64 s] 37 (0, 0))) := rowKeep r_a1.out b2
 have c_a2_3 : W2.cell? ⟨w.heap.size, 3, none⟩ = some (.slice ao1 b.length cap1) := row_at r_a2.out 3
 have c_a2_4 : W2.cell? ⟨w.heap.size, 4, none⟩ = some (.int .i64 s) := row_at r_a2.out 4
 clear r_a1
 cases A
 ·
  have HN : Hid (R = false) := by show _ = _; rw [HD.out]; simp
  go_wp2
  go_ret
  exact ⟨by rw [HN.out]; rfl, B2.out⟩
 ·
  by_cases h6 : b.length ≤ 60000
  ·
   have d6 : ¬ (60000 : Int) < (b.length : Int) := by omega
   by_cases hin : 0 ≤ s ∧ s ≤ (b.length : Int)
   ·
    have q2 := in6t W2 hin
    have HIN : Hid (0 ≤ s ∧ s ≤ (b.length : Int)) := hin
    clear hin
    go_wp2_with fail
    refine q2.mono ?_
    rintro e W_ ⟨rfl, hW_⟩
    subst hW_
    clear q2
    go_wp2_with fail
    refine (q3 W2 _ (HSB.out.later B2.out)).mono ?_
    rintro e W3 ⟨v_n, rfl, o_n3, b3⟩
    obtain ⟨ao_n, L_n, cap_n, rfl, hL_n, hM_n⟩ := o_n3.form
    have o_n3 : Hid (Own W3 W2.heap.size W3.heap.size 9 (.slice ao_n L_n cap_n) (ss L)) := o_n3
    clear hL_n hM_n
    have B3 : Hid (Below w.heap.size w W3) := B2.out.trans (b3.mono B2.out.size)
    have r_a3 : Hid (W3.heap[w.heap.size]? = some (.cells #[.slice ao0 l.length cap0, .int .i64 h.n, .string h.r, .slice ao1 b.length cap1, .int .i64 s] 37 (0, 0))) := rowKeep r_a2.out b3
    have c_a3_0 : W3.cell? ⟨w.heap.size, 0, none⟩ = some (.slice ao0 l.length cap0) := row_at r_a3.out 0
    clear r_a2 c_a2_3 c_a2_4
    have a_a3_0 : ∀ o, (W3.alloc o).cell? ⟨w.heap.size, 0, none⟩ = some (.slice ao0 l.length cap0) := fun o => keepR c_a3_0 ((Below.refl _ _).alloc (Nat.le_refl _) o)
    obtain ⟨W4, HW4, b4, y4, hS4, r_l4⟩ : ∃ X, Hid ((W3.alloc (.cells #[.slice ao_n L_n cap_n, .int .i64 H.n, .string H.r] 31)) = X) ∧ Below W3.heap.size W3 X ∧ W3.heap.size + 1 ≤ X.heap.size ∧ Hid (X.heap.size = W3.heap.size + 1) ∧ Hid (X.heap[W3.heap.size]? = some (.cells #[.slice ao_n L_n cap_n, .int .i64 H.n, .string H.r] 31 (0, 0))) := ⟨_, rfl, ((Below.refl _ _).alloc (Nat.le_refl _) _), by simp, by show _ = _; simp, (by show _ = _; exact alloc_nth1_0 W3 _)⟩
    have B4 : Hid (Below w.heap.size w W4) := B3.out.trans (b4.mono B3.out.size)
    have o_n4 : Hid (Own W4 (W2.heap.size) (W3.heap.size) 9 (.slice ao_n L_n cap_n) (ss L)) := Own.later o_n3.out b4 (by omega)
    clear r_a3 c_a3_0 o_n3
    cases ok
    ·
     clear q1 q3
     have HN : Hid (R = false) := by show _ = _; rw [HD.out]; simp
     go_wp2_with fail
     rw [HW4.out]
     clear a_a3_0
     go_ret
     exact ⟨by rw [HN.out]; rfl, B4.out⟩
    ·
     obtain ⟨F, hF⟩ : ∃ F, decide (L = l) = F := ⟨_, rfl⟩
     have hF2 : F = true ↔ L = l := by rw [← hF]; exact decide_eq_true_iff
     have q4 : ∀ W v1 v2, Sl W v1 (ss L) → Sl W v2 (ss l) → _ := fun W v1 v2 h1 h2 => Cl.same_spec W v1 v2 L l F hF2 h1 h2 (by omega) (by omega)
     have HN : Hid (R = F) := by show _ = _; rw [HD.out, hF]; simp [h6, HIN.out]
     clear hF hF2
     go_wp2_with fail
     rw [HW4.out]
     clear a_a3_0
     refine (q4 W4 _ _ o_n4.out.sl (HS.out.later B4.out)).mono ?_
     rintro e W5 ⟨rfl, h5, _⟩
     have b5 : Below W4.heap.size W4 W5 := h5 _
     clear h5
     have B5 : Hid (Below w.heap.size w W5) := B4.out.trans (b5.mono B4.out.size)
     clear r_l4 o_n4
     go_wp2
     go_ret
     exact ⟨by rw [HN.out]; rfl, B5.out⟩
   ·
    have q2 := in6f W2 hin
    have HIN : Hid (¬ (0 ≤ s ∧ s ≤ (b.length : Int))) := hin
    clear hin
    go_wp2_with fail
    refine q2.mono ?_
    rintro e W_ ⟨rfl, hW_⟩
    subst hW_
    clear q2
    have HN : Hid (R = false) := by show _ = _; rw [HD.out]; rw [decide_eq_false HIN.out]; simp
    go_wp2
    go_ret
    exact ⟨by rw [HN.out]; rfl, B2.out⟩
  ·
   have d6 : (60000 : Int) < (b.length : Int) := by omega
   have HN : Hid (R = false) := by show _ = _; rw [HD.out]; rw [decide_eq_false h6]; simp
   go_wp2
   go_ret
   exact ⟨by rw [HN.out]; rfl, B2.out⟩
end Go.Proofs.YtfpaichdkddglaaGreatDoor.Sr
