/- Texts in one: SrE, Cl1, Cl2, SrF. -/
import Derived.Test.YtfpaichdkddglabDoorPk14
import Derived.Test.YtfpaichdkddglabDoorPk12
import Derived.Test.YtfpaichdkddglabDoorPk9
import Derived.Test.YtfpaichdkddglabDoorPk10
import Derived.BigQuiet
/- Chapter 12, the specification's side: the log that commits make. -/
namespace Go.Proofs.YtfpaichdkddglabDoor.Sr
open Go.RowKit Go.Proofs.YtfpaichdkddglabDoor.Mem Go.Proofs.YtfpaichdkddglabDoor.Laws Go.Proofs.YtfpaichdkddglabDoor.Bytes Go.Proofs.YtfpaichdkddglabDoor.Sha Go.Proofs.YtfpaichdkddglabDoor.Tr Go.Proofs.YtfpaichdkddglabDoor.He Go.Proofs.YtfpaichdkddglabDoor.Lg
set_option linter.unusedVariables false
set_option linter.unusedSimpArgs false

/-- one step of a replay -/
theorem replay_step {xs : List Int} {a : Nat} {l : List ByteArray} {hd : Hd} {R : List ByteArray × Hd × Bool} {h : Hd} {x : List ByteArray} {p : Int} {ok : Bool} (hlt : a < xs.length) (hg : getC xs (a : Int) = (h, x, p, ok))
    (hf : ∃ f, xs.length - a ≤ f ∧ replayF f xs a l hd = R) :
    (¬ (ok = true ∧ l.length + x.length ≤ 200) → R = (l, hd, false)) ∧
    (ok = true → l.length + x.length ≤ 200 → eqH h (headOf (l ++ x)) = false → R = (l ++ x, h, false)) ∧
    (Byt xs → ok = true → l.length + x.length ≤ 200 → eqH h (headOf (l ++ x)) = true → ∃ q : Nat, p = (q : Int) ∧ a < q ∧ q ≤ xs.length ∧ (∀ s ∈ x, s.size ≤ 1000000000) ∧ ∃ f, xs.length - q ≤ f ∧ replayF f xs q (l ++ x) h = R) := by
  obtain ⟨f, hf1, hf2⟩ := hf
  obtain ⟨f, rfl⟩ : ∃ k, f = k + 1 := ⟨f - 1, by omega⟩
  rw [replayF, if_pos hlt, hg] at hf2
  simp only at hf2
  refine ⟨fun hn => ?_, fun h1 h2 h3 => ?_, fun hb h1 h2 h3 => ?_⟩
  · rw [if_neg hn] at hf2; exact hf2.symm
  · rw [if_pos ⟨h1, h2⟩, if_neg (by simp [h3])] at hf2; exact hf2.symm
  · subst h1
    rw [if_pos ⟨rfl, h2⟩, if_pos h3] at hf2
    obtain ⟨q, rfl, hq, hqx, _, _, _, hbl, _⟩ := put_get hb hg
    have hp := put_pos h x
    exact ⟨q, rfl, by omega, hqx, fun s hs => Nat.le_trans (size_body (h := h) hs) hbl, f, by omega, hf2⟩
theorem replay_end {xs : List Int} {a : Nat} {l : List ByteArray} {hd : Hd} {R : List ByteArray × Hd × Bool} (hlt : ¬ a < xs.length) (hf : ∃ f, xs.length - a ≤ f ∧ replayF f xs a l hd = R) : R = (l, hd, true) := by
  obtain ⟨f, _, hf2⟩ := hf
  cases f with
  | zero => exact hf2.symm
  | succ f => rw [replayF, if_neg hlt] at hf2; exact hf2.symm
theorem getC_len (xs : List Int) (a : Int) : (getC xs a).2.1.length ≤ 200 := by
  unfold getC
  split
  · split
    · rename_i h x hi
      split
      · unfold inBody at hi
        split at hi
        · simp only [Option.some.injEq, Prod.mk.injEq] at hi
          rw [← hi.2]
          exact Plain.getTexts_len _ _
        · cases hi
      · exact Nat.zero_le _
    · exact Nat.zero_le _
  · exact Nat.zero_le _
theorem getC_size {xs : List Int} {a : Nat} {h : Hd} {x : List ByteArray} {p : Int} {ok : Bool} (hb : Byt xs) (hg : getC xs (a : Int) = (h, x, p, ok)) : ∀ s ∈ x, s.size ≤ 1000000000 := by
  cases ok
  · have := getC_no (xs := xs) (a := (a : Int)) (by rw [hg])
    rw [hg] at this
    simp only [no12, Prod.mk.injEq] at this
    rw [this.2.1]
    intro s hs
    cases hs
  · obtain ⟨_, _, _, _, _, _, _, hbl, _⟩ := put_get hb hg
    exact fun s hs => Nat.le_trans (size_body (h := h) hs) hbl
theorem ownNil (w : World) (lo hi : Nat) (e : TypeId) : Own w lo hi e (.slice none 0 0) [] := ⟨⟨rfl, Or.inl ⟨rfl, rfl⟩⟩, fun g hg => by simp [Value.ownBlock] at hg⟩

set_option maxRecDepth 1000000 in
set_option maxHeartbeats 8000000 in
theorem replay_spec (w : World) (v : Value) (xs : List Int) (hs : Sl w v (bs xs)) (hb : Byt xs) (hx : xs.length ≤ 1000000000000) :
    Calls Tryd.prog 26 #[v] w fun e w' => ∃ v', e = .returned (.tuple #[.agg #[v', .int .i64 (replay xs).2.1.n, .string (replay xs).2.1.r], .bool (replay xs).2.2]) ∧ Own w' w.heap.size w'.heap.size 9 v' (ss (replay xs).1) ∧ Below w.heap.size w w' := by
  obtain ⟨R, hR⟩ : ∃ R, replay xs = R := ⟨_, rfl⟩
  have HF0 : Hid (∃ f, xs.length - 0 ≤ f ∧ replayF f xs 0 [] (headOf []) = R) := ⟨xs.length, by omega, hR⟩
  rw [hR]
  have HS : Hid (Sl w v (bs xs)) := hs
  have HBY : Hid (Byt xs) := hb
  obtain ⟨ao0, cap0, rfl, hc0⟩ := hs.form
  rw [bs_len] at *
  clear hs hb hR
  have B0 : Hid (Below w.heap.size w w) := Below.refl _ _
  obtain ⟨i9, hi9, hz9a, hz9b, hz9c⟩ := info_parts info9t
  obtain ⟨W1, HW1, b1, y1, hS1, r_res1⟩ : ∃ X, Hid ((w.alloc (.cells #[.slice none 0 0, .int .i64 0, .string ⟨#[]⟩] 26)) = X) ∧ Below w.heap.size w X ∧ w.heap.size + 1 ≤ X.heap.size ∧ Hid (X.heap.size = w.heap.size + 1) ∧ Hid (X.heap[w.heap.size]? = some (.cells #[.slice none 0 0, .int .i64 0, .string ⟨#[]⟩] 26 (0, 0))) := ⟨_, rfl, ((Below.refl _ _).alloc (Nat.le_refl _) _), by simp, by show _ = _; simp, (by show _ = _; exact alloc_nth1_0 w _)⟩
  have z1 : w.heap.size ≤ W1.heap.size := b1.size
  have B1 : Hid (Below w.heap.size w W1) := B0.out.trans (b1.mono B0.out.size)
  have c_res1_0 : W1.cell? ⟨w.heap.size, 0, none⟩ = some (.slice none 0 0) := row_at r_res1.out 0
  have c_res1_1 : W1.cell? ⟨w.heap.size, 1, none⟩ = some (.int .i64 0) := row_at r_res1.out 1
  have c_res1_2 : W1.cell? ⟨w.heap.size, 2, none⟩ = some (.string ⟨#[]⟩) := row_at r_res1.out 2
  have q0 : ∀ W, _ := fun W => lognew_spec W
  obtain ⟨M, hM⟩ : ∃ M, headOf [] = M := ⟨_, rfl⟩
  simp only [hM] at q0
  rw [hM] at HF0
  clear hM
  have qg : ∀ W, Below w.heap.size w W → ∀ a : Nat, a ≤ xs.length → _ := fun W hW a ha => get_spec W _ xs (a : Int) (HS.out.later hW) HBY.out hx (by omega) (by omega)
  have qo : ∀ W v1 l1, Sl W v1 (ss l1) → l1.length ≤ 1000 → (∀ s ∈ l1, s.size ≤ 1000000000) → _ := fun W v1 l1 h1 h2 h3 => headOf_spec W v1 l1 h1 (by omega) (fun s hs => by have := h3 s hs; omega)
  go_enter Tryd.func26, Tryd.ntmps26
  go_wp2_with fail
  rw [HW1.out]
  refine (q0 W1).mono ?_
  rintro e W2 ⟨rfl, b2⟩
  have z2 : W1.heap.size ≤ W2.heap.size := b2.size
  have B2 : Hid (Below w.heap.size w W2) := B1.out.trans (b2.mono B1.out.size)
  have r_res2 : Hid (W2.heap[w.heap.size]? = some (.cells #[.slice none 0 0, .int .i64 0, .string ⟨#[]⟩] 26 (0, 0))) := rowKeep r_res1.out b2
  have c_res2_0 : W2.cell? ⟨w.heap.size, 0, none⟩ = some (.slice none 0 0) := row_at r_res2.out 0
  have c_res2_1 : W2.cell? ⟨w.heap.size, 1, none⟩ = some (.int .i64 0) := row_at r_res2.out 1
  have c_res2_2 : W2.cell? ⟨w.heap.size, 2, none⟩ = some (.string ⟨#[]⟩) := row_at r_res2.out 2
  clear r_res1 c_res1_0 c_res1_1 c_res1_2
  have a_res2_0 : ∀ o, (W2.alloc o).cell? ⟨w.heap.size, 0, none⟩ = some (.slice none 0 0) := fun o => keepR c_res2_0 ((Below.refl _ _).alloc (Nat.le_refl _) o)
  have a_res2_1 : ∀ o, (W2.alloc o).cell? ⟨w.heap.size, 1, none⟩ = some (.int .i64 0) := fun o => keepR c_res2_1 ((Below.refl _ _).alloc (Nat.le_refl _) o)
  have a_res2_2 : ∀ o, (W2.alloc o).cell? ⟨w.heap.size, 2, none⟩ = some (.string ⟨#[]⟩) := fun o => keepR c_res2_2 ((Below.refl _ _).alloc (Nat.le_refl _) o)
  obtain ⟨W3, HW3, b3, y3, hS3, r_l3⟩ : ∃ X, Hid ((W2.alloc (.cells #[.slice none 0 0, .int .i64 M.n, .string M.r] 26)) = X) ∧ Below W2.heap.size W2 X ∧ W2.heap.size + 1 ≤ X.heap.size ∧ Hid (X.heap.size = W2.heap.size + 1) ∧ Hid (X.heap[W2.heap.size]? = some (.cells #[.slice none 0 0, .int .i64 M.n, .string M.r] 26 (0, 0))) := ⟨_, rfl, ((Below.refl _ _).alloc (Nat.le_refl _) _), by simp, by show _ = _; simp, (by show _ = _; exact alloc_nth1_0 W2 _)⟩
  have z3 : W2.heap.size ≤ W3.heap.size := b3.size
  have B3 : Hid (Below w.heap.size w W3) := B2.out.trans (b3.mono B2.out.size)
  have r_res3 : Hid (W3.heap[w.heap.size]? = some (.cells #[.slice none 0 0, .int .i64 0, .string ⟨#[]⟩] 26 (0, 0))) := rowKeep r_res2.out b3
  have c_res3_0 : W3.cell? ⟨w.heap.size, 0, none⟩ = some (.slice none 0 0) := row_at r_res3.out 0
  have c_res3_1 : W3.cell? ⟨w.heap.size, 1, none⟩ = some (.int .i64 0) := row_at r_res3.out 1
  have c_res3_2 : W3.cell? ⟨w.heap.size, 2, none⟩ = some (.string ⟨#[]⟩) := row_at r_res3.out 2
  have c_l3_0 : W3.cell? ⟨W2.heap.size, 0, none⟩ = some (.slice none 0 0) := row_at r_l3.out 0
  have c_l3_1 : W3.cell? ⟨W2.heap.size, 1, none⟩ = some (.int .i64 M.n) := row_at r_l3.out 1
  have c_l3_2 : W3.cell? ⟨W2.heap.size, 2, none⟩ = some (.string M.r) := row_at r_l3.out 2
  clear r_res2 c_res2_0 c_res2_1 c_res2_2
  go_wp2_with fail
  rw [HW3.out]
  clear a_res2_0 a_res2_1 a_res2_2
  go_loopw [5] (fun iv wr => ∃ (a : Nat) (l : List ByteArray) (hd : Hd) (ao : Option Addr) (L cap : Nat), a ≤ xs.length ∧ iv = .int .i64 (a : Int) ∧ Hid (∃ f, xs.length - a ≤ f ∧ replayF f xs a l hd = R) ∧ Hid (wr.heap[W2.heap.size]? = some (.cells #[.slice ao L cap, .int .i64 hd.n, .string hd.r] 26 (0, 0))) ∧ Hid (wr.heap[w.heap.size]? = some (.cells #[.slice none 0 0, .int .i64 0, .string ⟨#[]⟩] 26 (0, 0))) ∧ Hid (Own wr W3.heap.size wr.heap.size 9 (.slice ao L cap) (ss l)) ∧ Hid (Below w.heap.size w wr) ∧ W3.heap.size ≤ wr.heap.size ∧ l.length ≤ 200 ∧ Hid (∀ s ∈ l, s.size ≤ 1000000000)) (fun iv _ => xs.length - (intOf iv).toNat)
  case atStart => exact ⟨0, [], M, none, 0, 0, Nat.zero_le _, rfl, HF0, r_l3, r_res3, ownNil _ _ _ _, B3, Nat.le_refl _, Nat.zero_le _, fun s hs => by cases hs⟩
  case round =>
    obtain ⟨a, l, hd, ao_v, L_v, cap_v, ha, rfl, HF, r_l4, r_res4, o_v4, B4, z4, hl2, HZ⟩ := hrel
    obtain ⟨W4, hW4⟩ : ∃ X, X = wr := ⟨_, rfl⟩
    subst hW4
    clear HF0 r_l3 c_l3_0 c_l3_1 c_l3_2 r_res3 c_res3_0 c_res3_1 c_res3_2
    have hLv : L_v ≤ l.length ∧ l.length ≤ L_v := by obtain ⟨a9, L9, c9, he, h1, h2⟩ := Mem.Own.form o_v4.out; injection he with _ he2 _; rw [ss_len] at h1 h2; omega
    have c_l4_0 : W4.cell? ⟨W2.heap.size, 0, none⟩ = some (.slice ao_v L_v cap_v) := row_at r_l4.out 0
    have c_l4_1 : W4.cell? ⟨W2.heap.size, 1, none⟩ = some (.int .i64 hd.n) := row_at r_l4.out 1
    have c_l4_2 : W4.cell? ⟨W2.heap.size, 2, none⟩ = some (.string hd.r) := row_at r_l4.out 2
    have c_res4_0 : W4.cell? ⟨w.heap.size, 0, none⟩ = some (.slice none 0 0) := row_at r_res4.out 0
    have c_res4_1 : W4.cell? ⟨w.heap.size, 1, none⟩ = some (.int .i64 0) := row_at r_res4.out 1
    have c_res4_2 : W4.cell? ⟨w.heap.size, 2, none⟩ = some (.string ⟨#[]⟩) := row_at r_res4.out 2
    by_cases hlt : a < xs.length
    · have q2 := qg W4 B4.out a ha
      obtain ⟨h, x, p, ok, hg⟩ : ∃ h x p ok, getC xs (a : Int) = (h, x, p, ok) := ⟨_, _, _, _, rfl⟩
      unfold GotC at q2
      rw [hg] at q2
      simp only at q2
      obtain ⟨S1, S2, S3⟩ := replay_step hlt hg HF.out
      have H1 : Hid _ := S1
      have H2 : Hid _ := S2
      have H3 : Hid _ := S3
      have hx2 : x.length ≤ 200 := by
        have h9 := getC_len xs (a : Int)
        rw [hg] at h9
        exact h9
      have H4 : Hid (getC xs (a : Int) = (h, x, p, ok)) := hg
      clear S1 S2 S3 HF hg
      go_wp2_with fail
      refine (q2).mono ?_
      rintro e W5 ⟨v_t, rfl, o_t5, b5⟩
      obtain ⟨ao_t, L_t, cap_t, rfl, hL_t, hM_t⟩ := o_t5.form
      have o_t5 : Hid (Own W5 W4.heap.size W5.heap.size 9 (.slice ao_t L_t cap_t) (ss x)) := o_t5
      clear hL_t hM_t
      have z5 : W4.heap.size ≤ W5.heap.size := b5.size
      have B5 : Hid (Below w.heap.size w W5) := B4.out.trans (b5.mono B4.out.size)
      have r_l5 : Hid (W5.heap[W2.heap.size]? = some (.cells #[.slice ao_v L_v cap_v, .int .i64 hd.n, .string hd.r] 26 (0, 0))) := rowKeep r_l4.out b5
      have r_res5 : Hid (W5.heap[w.heap.size]? = some (.cells #[.slice none 0 0, .int .i64 0, .string ⟨#[]⟩] 26 (0, 0))) := rowKeep r_res4.out b5
      have o_v5 : Hid (Own W5 (W3.heap.size) (W4.heap.size) 9 (.slice ao_v L_v cap_v) (ss l)) := Own.later o_v4.out b5 (by omega)
      have c_l5_0 : W5.cell? ⟨W2.heap.size, 0, none⟩ = some (.slice ao_v L_v cap_v) := row_at r_l5.out 0
      have c_l5_1 : W5.cell? ⟨W2.heap.size, 1, none⟩ = some (.int .i64 hd.n) := row_at r_l5.out 1
      have c_l5_2 : W5.cell? ⟨W2.heap.size, 2, none⟩ = some (.string hd.r) := row_at r_l5.out 2
      have c_res5_0 : W5.cell? ⟨w.heap.size, 0, none⟩ = some (.slice none 0 0) := row_at r_res5.out 0
      have c_res5_1 : W5.cell? ⟨w.heap.size, 1, none⟩ = some (.int .i64 0) := row_at r_res5.out 1
      have c_res5_2 : W5.cell? ⟨w.heap.size, 2, none⟩ = some (.string ⟨#[]⟩) := row_at r_res5.out 2
      clear r_l4 c_l4_0 c_l4_1 c_l4_2 r_res4 c_res4_0 c_res4_1 c_res4_2 o_v4
      have hLt : L_t ≤ x.length ∧ x.length ≤ L_t := by obtain ⟨a9, L9, c9, he, h1, h2⟩ := Mem.Own.form o_t5.out; injection he with _ he2 _; rw [ss_len] at h1 h2; omega
      clear q2
      have a_l5_0 : ∀ o, (W5.alloc o).cell? ⟨W2.heap.size, 0, none⟩ = some (.slice ao_v L_v cap_v) := fun o => keepR c_l5_0 ((Below.refl _ _).alloc (Nat.le_refl _) o)
      have a_l5_1 : ∀ o, (W5.alloc o).cell? ⟨W2.heap.size, 1, none⟩ = some (.int .i64 hd.n) := fun o => keepR c_l5_1 ((Below.refl _ _).alloc (Nat.le_refl _) o)
      have a_l5_2 : ∀ o, (W5.alloc o).cell? ⟨W2.heap.size, 2, none⟩ = some (.string hd.r) := fun o => keepR c_l5_2 ((Below.refl _ _).alloc (Nat.le_refl _) o)
      have a_res5_0 : ∀ o, (W5.alloc o).cell? ⟨w.heap.size, 0, none⟩ = some (.slice none 0 0) := fun o => keepR c_res5_0 ((Below.refl _ _).alloc (Nat.le_refl _) o)
      have a_res5_1 : ∀ o, (W5.alloc o).cell? ⟨w.heap.size, 1, none⟩ = some (.int .i64 0) := fun o => keepR c_res5_1 ((Below.refl _ _).alloc (Nat.le_refl _) o)
      have a_res5_2 : ∀ o, (W5.alloc o).cell? ⟨w.heap.size, 2, none⟩ = some (.string ⟨#[]⟩) := fun o => keepR c_res5_2 ((Below.refl _ _).alloc (Nat.le_refl _) o)
      obtain ⟨W6, HW6, b6, y6, hS6, r_h6⟩ : ∃ X, Hid ((W5.alloc (.cells #[.int .i64 h.n, .string h.r] 24)) = X) ∧ Below W5.heap.size W5 X ∧ W5.heap.size + 1 ≤ X.heap.size ∧ Hid (X.heap.size = W5.heap.size + 1) ∧ Hid (X.heap[W5.heap.size]? = some (.cells #[.int .i64 h.n, .string h.r] 24 (0, 0))) := ⟨_, rfl, ((Below.refl _ _).alloc (Nat.le_refl _) _), by simp, by show _ = _; simp, (by show _ = _; exact alloc_nth1_0 W5 _)⟩
      have z6 : W5.heap.size ≤ W6.heap.size := b6.size
      have B6 : Hid (Below w.heap.size w W6) := B5.out.trans (b6.mono B5.out.size)
      have r_l6 : Hid (W6.heap[W2.heap.size]? = some (.cells #[.slice ao_v L_v cap_v, .int .i64 hd.n, .string hd.r] 26 (0, 0))) := rowKeep r_l5.out b6
      have r_res6 : Hid (W6.heap[w.heap.size]? = some (.cells #[.slice none 0 0, .int .i64 0, .string ⟨#[]⟩] 26 (0, 0))) := rowKeep r_res5.out b6
      have o_v6 : Hid (Own W6 (W3.heap.size) (W4.heap.size) 9 (.slice ao_v L_v cap_v) (ss l)) := Own.later o_v5.out b6 (by omega)
      have o_t6 : Hid (Own W6 (W4.heap.size) (W5.heap.size) 9 (.slice ao_t L_t cap_t) (ss x)) := Own.later o_t5.out b6 (by omega)
      have c_l6_0 : W6.cell? ⟨W2.heap.size, 0, none⟩ = some (.slice ao_v L_v cap_v) := row_at r_l6.out 0
      have c_l6_1 : W6.cell? ⟨W2.heap.size, 1, none⟩ = some (.int .i64 hd.n) := row_at r_l6.out 1
      have c_l6_2 : W6.cell? ⟨W2.heap.size, 2, none⟩ = some (.string hd.r) := row_at r_l6.out 2
      have c_res6_0 : W6.cell? ⟨w.heap.size, 0, none⟩ = some (.slice none 0 0) := row_at r_res6.out 0
      have c_res6_1 : W6.cell? ⟨w.heap.size, 1, none⟩ = some (.int .i64 0) := row_at r_res6.out 1
      have c_res6_2 : W6.cell? ⟨w.heap.size, 2, none⟩ = some (.string ⟨#[]⟩) := row_at r_res6.out 2
      have c_h6_0 : W6.cell? ⟨W5.heap.size, 0, none⟩ = some (.int .i64 h.n) := row_at r_h6.out 0
      have c_h6_1 : W6.cell? ⟨W5.heap.size, 1, none⟩ = some (.string h.r) := row_at r_h6.out 1
      clear r_l5 c_l5_0 c_l5_1 c_l5_2 r_res5 c_res5_0 c_res5_1 c_res5_2 o_v5 o_t5
      cases ok
      · have HN : Hid (R = (l, hd, false)) := H1.out (by simp)
        go_wp2_with (first | ((try rw [HW6.out]); refine wpList_load_row rfl 26 _ rfl (W2.heap.size) rfl 26 (lc (.slice ao_v L_v cap_v) hd) (0, 0) _ r_l6.out Tryd.underlying26 rfl (sizeL _ _) ?_) | (refine wpList_store_row rfl 26 _ _ rfl (w.heap.size) (lc (.slice ao_v L_v cap_v) hd) rfl rfl 26 _ r_res6.out (sizeL _ _) rfl (oneL _ rfl) ?_))
        refine bodyPost_ret (res_row_tmp rfl _ _ (w.heap.size) 26 (lc (.slice ao_v L_v cap_v) hd) (0, 0) _ rfl (setRow_heap _ _ _ _ _ (0, 0) r_res6.out) Tryd.underlying26 rfl (sizeL _ _)) rfl ⟨.slice ao_v L_v cap_v, by rw [HN.out]; rfl, ?_, below_setRow B6.out (by omega) _⟩
        rw [HN.out]
        exact (Own.setRow o_v6.out _ (by omega)).mono (by omega) (by rw [size_setRow]; omega)
      · by_cases h200 : l.length + x.length ≤ 200
        · have d200 : ¬ (200 : Int) < (L_v : Int) + (L_t : Int) := by omega
          have c6_7 : (ss l).length + (ss x).length ≤ maxLen := by rw [ss_len, ss_len]; unfold maxLen; (try simp only [List.length_nil]); omega
          have c7_7 : ((ss l).length + (ss x).length) * 16 ≤ 140737488355328 := by rw [ss_len, ss_len]; (try simp only [List.length_nil]); omega
          have sE7 : Hid (Sl W6 _ (ss x)) := o_t6.out.sl
          go_wp2_with (at_builtin; (try rw [HW6.out]); go_must (refine wpl_app _ rfl (.tmp 36) (.tmp 37) 22 rfl 9 i9 (.string ⟨#[]⟩) 16 Tryd.underlying22 hi9 hz9a hz9b hz9c rfl (W3.heap.size) _ (ss l) rfl (Own.mono o_v6.out (Nat.le_refl _) (by omega)) _ rfl (ss x) sE7.out (ss_one x) c6_7 c7_7 (by omega) ?_))
          intro v_n W7 o_n7 _ g7
          clear a_l5_0 a_l5_1 a_l5_2 a_res5_0 a_res5_1 a_res5_2
          have o_n7 : Own W7 (W3.heap.size) W7.heap.size 9 v_n (ss (l ++ x)) := by show Own _ _ _ _ _ _; rw [ss_app]; exact o_n7
          have o_n7h : Hid (Own W7 (W3.heap.size) W7.heap.size 9 v_n (ss (l ++ x))) := o_n7
          clear o_n7
          have o_n7 := o_n7h
          clear o_n7h
          obtain ⟨ao_n, L_n, cap_n, rfl, _, _⟩ := Mem.Own.form o_n7.out
          have z7 : W6.heap.size ≤ W7.heap.size := g7.size
          have B7 : Hid (Below w.heap.size w W7) := belowGro B6.out g7 B6.out.size (Own.low o_v6.out (by have := B6.out.size; omega))
          have r_l7 : Hid (W7.heap[W2.heap.size]? = some (.cells #[.slice ao_v L_v cap_v, .int .i64 hd.n, .string hd.r] 26 (0, 0))) := rowGro r_l6.out g7 (Own.neRow o_v6.out r_l6.out (by decide))
          have r_res7 : Hid (W7.heap[w.heap.size]? = some (.cells #[.slice none 0 0, .int .i64 0, .string ⟨#[]⟩] 26 (0, 0))) := rowGro r_res6.out g7 (Own.neRow o_v6.out r_res6.out (by decide))
          have r_h7 : Hid (W7.heap[W5.heap.size]? = some (.cells #[.int .i64 h.n, .string h.r] 24 (0, 0))) := rowGro r_h6.out g7 (Own.neRow o_v6.out r_h6.out (by decide))
          have o_t7 : Hid (Own W7 (W4.heap.size) (W5.heap.size) 9 (.slice ao_t L_t cap_t) (ss x)) := Own.gro o_t6.out g7 (Own.neFar o_v6.out o_t6.out (by omega))
          have c_l7_0 : W7.cell? ⟨W2.heap.size, 0, none⟩ = some (.slice ao_v L_v cap_v) := row_at r_l7.out 0
          have c_l7_1 : W7.cell? ⟨W2.heap.size, 1, none⟩ = some (.int .i64 hd.n) := row_at r_l7.out 1
          have c_l7_2 : W7.cell? ⟨W2.heap.size, 2, none⟩ = some (.string hd.r) := row_at r_l7.out 2
          have c_res7_0 : W7.cell? ⟨w.heap.size, 0, none⟩ = some (.slice none 0 0) := row_at r_res7.out 0
          have c_res7_1 : W7.cell? ⟨w.heap.size, 1, none⟩ = some (.int .i64 0) := row_at r_res7.out 1
          have c_res7_2 : W7.cell? ⟨w.heap.size, 2, none⟩ = some (.string ⟨#[]⟩) := row_at r_res7.out 2
          have c_h7_0 : W7.cell? ⟨W5.heap.size, 0, none⟩ = some (.int .i64 h.n) := row_at r_h7.out 0
          have c_h7_1 : W7.cell? ⟨W5.heap.size, 1, none⟩ = some (.string h.r) := row_at r_h7.out 1
          clear r_l6 c_l6_0 c_l6_1 c_l6_2 r_res6 c_res6_0 c_res6_1 c_res6_2 r_h6 c_h6_0 c_h6_1 o_v6 o_t6
          clear g7 sE7 c6_7 c7_7
          go_wp2_with (refine wpl_oneG rfl 22 _ _ rfl (W2.heap.size) 0 (.slice ao_n L_n cap_n) rfl rfl [.slice ao_v L_v cap_v, .int .i64 hd.n, .string hd.r] 26 r_l7.out (Nat.le_of_ble_eq_true rfl) (by kernel_rfl) rfl [.slice ao_n L_n cap_n, .int .i64 hd.n, .string hd.r] rfl ?_)
          intro W8 r_l8 g8
          have r_l8 : Hid (W8.heap[W2.heap.size]? = some (.cells #[.slice ao_n L_n cap_n, .int .i64 hd.n, .string hd.r] 26 (0, 0))) := r_l8
          have z8 : W7.heap.size ≤ W8.heap.size := g8.size
          have B8 : Hid (Below w.heap.size w W8) := belowGro B7.out g8 B7.out.size (fun k9 h9 => by injection h9 with h9; have := B7.out.size; omega)
          have r_res8 : Hid (W8.heap[w.heap.size]? = some (.cells #[.slice none 0 0, .int .i64 0, .string ⟨#[]⟩] 26 (0, 0))) := rowGro r_res7.out g8 (fun h9 => by injection h9 with h9; omega)
          have r_h8 : Hid (W8.heap[W5.heap.size]? = some (.cells #[.int .i64 h.n, .string h.r] 24 (0, 0))) := rowGro r_h7.out g8 (fun h9 => by injection h9 with h9; omega)
          have o_t8 : Hid (Own W8 (W4.heap.size) (W5.heap.size) 9 (.slice ao_t L_t cap_t) (ss x)) := Own.gro o_t7.out g8 (fun k9 h9 e9 => Own.neRow o_t7.out r_l7.out (by decide) (h9.trans e9.symm))
          have o_n8 : Hid (Own W8 (W3.heap.size) (W7.heap.size) 9 (.slice ao_n L_n cap_n) (ss (l ++ x))) := Own.gro o_n7.out g8 (fun k9 h9 e9 => Own.neRow o_n7.out r_l7.out (by decide) (h9.trans e9.symm))
          have c_l8_0 : W8.cell? ⟨W2.heap.size, 0, none⟩ = some (.slice ao_n L_n cap_n) := row_at r_l8.out 0
          have c_l8_1 : W8.cell? ⟨W2.heap.size, 1, none⟩ = some (.int .i64 hd.n) := row_at r_l8.out 1
          have c_l8_2 : W8.cell? ⟨W2.heap.size, 2, none⟩ = some (.string hd.r) := row_at r_l8.out 2
          have c_res8_0 : W8.cell? ⟨w.heap.size, 0, none⟩ = some (.slice none 0 0) := row_at r_res8.out 0
          have c_res8_1 : W8.cell? ⟨w.heap.size, 1, none⟩ = some (.int .i64 0) := row_at r_res8.out 1
          have c_res8_2 : W8.cell? ⟨w.heap.size, 2, none⟩ = some (.string ⟨#[]⟩) := row_at r_res8.out 2
          have c_h8_0 : W8.cell? ⟨W5.heap.size, 0, none⟩ = some (.int .i64 h.n) := row_at r_h8.out 0
          have c_h8_1 : W8.cell? ⟨W5.heap.size, 1, none⟩ = some (.string h.r) := row_at r_h8.out 1
          clear r_res7 c_res7_0 c_res7_1 c_res7_2 r_h7 c_h7_0 c_h7_1 o_t7 o_n7
          clear r_l7 c_l7_0 c_l7_1 c_l7_2
          clear g8
          go_wp2_with (refine wpl_partG rfl 24 _ _ rfl (W2.heap.size) 1 (hc h) rfl rfl [.slice ao_n L_n cap_n, .int .i64 hd.n, .string hd.r] 26 r_l8.out (Nat.le_of_ble_eq_true rfl) (sizeH _) (oneH _) [.slice ao_n L_n cap_n, .int .i64 h.n, .string h.r] rfl ?_)
          intro W9 r_l9 g9
          have r_l9 : Hid (W9.heap[W2.heap.size]? = some (.cells #[.slice ao_n L_n cap_n, .int .i64 h.n, .string h.r] 26 (0, 0))) := r_l9
          have z9 : W8.heap.size ≤ W9.heap.size := g9.size
          have B9 : Hid (Below w.heap.size w W9) := belowGro B8.out g9 B8.out.size (fun k9 h9 => by injection h9 with h9; have := B8.out.size; omega)
          have r_res9 : Hid (W9.heap[w.heap.size]? = some (.cells #[.slice none 0 0, .int .i64 0, .string ⟨#[]⟩] 26 (0, 0))) := rowGro r_res8.out g9 (fun h9 => by injection h9 with h9; omega)
          have r_h9 : Hid (W9.heap[W5.heap.size]? = some (.cells #[.int .i64 h.n, .string h.r] 24 (0, 0))) := rowGro r_h8.out g9 (fun h9 => by injection h9 with h9; omega)
          have o_t9 : Hid (Own W9 (W4.heap.size) (W5.heap.size) 9 (.slice ao_t L_t cap_t) (ss x)) := Own.gro o_t8.out g9 (fun k9 h9 e9 => Own.neRow o_t8.out r_l8.out (by decide) (h9.trans e9.symm))
          have o_n9 : Hid (Own W9 (W3.heap.size) (W7.heap.size) 9 (.slice ao_n L_n cap_n) (ss (l ++ x))) := Own.gro o_n8.out g9 (fun k9 h9 e9 => Own.neRow o_n8.out r_l8.out (by decide) (h9.trans e9.symm))
          have c_l9_0 : W9.cell? ⟨W2.heap.size, 0, none⟩ = some (.slice ao_n L_n cap_n) := row_at r_l9.out 0
          have c_l9_1 : W9.cell? ⟨W2.heap.size, 1, none⟩ = some (.int .i64 h.n) := row_at r_l9.out 1
          have c_l9_2 : W9.cell? ⟨W2.heap.size, 2, none⟩ = some (.string h.r) := row_at r_l9.out 2
          have c_res9_0 : W9.cell? ⟨w.heap.size, 0, none⟩ = some (.slice none 0 0) := row_at r_res9.out 0
          have c_res9_1 : W9.cell? ⟨w.heap.size, 1, none⟩ = some (.int .i64 0) := row_at r_res9.out 1
          have c_res9_2 : W9.cell? ⟨w.heap.size, 2, none⟩ = some (.string ⟨#[]⟩) := row_at r_res9.out 2
          have c_h9_0 : W9.cell? ⟨W5.heap.size, 0, none⟩ = some (.int .i64 h.n) := row_at r_h9.out 0
          have c_h9_1 : W9.cell? ⟨W5.heap.size, 1, none⟩ = some (.string h.r) := row_at r_h9.out 1
          clear r_res8 c_res8_0 c_res8_1 c_res8_2 r_h8 c_h8_0 c_h8_1 o_t8 o_n8
          clear r_l8 c_l8_0 c_l8_1 c_l8_2
          clear g9
          obtain ⟨M9, hM9⟩ : ∃ A, headOf (l ++ x) = A := ⟨_, rfl⟩
          obtain ⟨E, hE⟩ : ∃ A, eqH h M9 = A := ⟨_, rfl⟩
          have e1 : ∀ W, _ := fun W => neqH W h M9
          have e2 : ∀ W op y z xs ys, _ := fun W op y z xs ys => grdH W op y z xs ys
          simp only [hE] at e1
          have HE : Hid (eqH h (headOf (l ++ x)) = E) := by show _ = _; rw [hM9]; exact hE
          have HZX : Hid (E = true → ∀ s ∈ l ++ x, s.size ≤ 1000000000) := fun h9 => by
            obtain ⟨_, _, _, _, h5, _⟩ := H3.out HBY.out (by first | exact rfl | trivial) h200 (by rw [HE.out]; exact h9)
            exact size_app HZ.out h5
          have qq : ∀ W v1, Sl W v1 (ss (l ++ x)) → _ := fun W v1 h1 => qo W v1 (l ++ x) h1 (by rw [List.length_append]; omega) (size_app HZ.out (getC_size HBY.out H4.out))
          simp only [hM9] at qq
          clear hM9 hE
          go_wp2_with fail
          refine wp_region_held_drew (S := fun w' => w'.cell? ⟨W5.heap.size, 0, none⟩ = some (.int .i64 h.n) ∧ w'.cell? ⟨W5.heap.size, 1, none⟩ = some (.string h.r) ∧ w'.cell? ⟨W2.heap.size, 0, none⟩ = some (.slice ao_n L_n cap_n) ∧ w'.cell? ⟨W2.heap.size, 1, none⟩ = some (.int .i64 h.n) ∧ w'.cell? ⟨W2.heap.size, 2, none⟩ = some (.string h.r)) (by kernel_rfl) ⟨c_h9_0, c_h9_1, c_l9_0, c_l9_1, c_l9_2⟩ (fun hHeld => ?_)
          (refine wpAnyH_take (i := 0) (v := ?v0x1) rfl (by kernel_rfl) (by kernel_rfl) (by kernel_rfl) (fun _ _ _ h => h) (Or.inl ⟨by rfl, ?hy0x1⟩) (by assumption) ?rest0x1; case hy0x1 => (intro w hSw; (try dsimp only at hSw); go_split_ands; go_simp; (try with_reducible rfl)))
          try simp only [Act.put, List.setIfInBounds_toArray, List.set_cons_zero, List.set_cons_succ, List.getElem_toArray, List.getElem_cons_zero, List.getElem_cons_succ]
          (refine wpAnyH_take (i := 1) (v := ?v1x2) rfl (by kernel_rfl) (by kernel_rfl) (by kernel_rfl) (fun _ _ _ h => h) (Or.inl ⟨by rfl, ?hy1x2⟩) (by assumption) ?rest1x2; case hy1x2 => (intro w hSw; (try dsimp only at hSw); go_split_ands; go_simp; (try with_reducible rfl)))
          try simp only [Act.put, List.setIfInBounds_toArray, List.set_cons_zero, List.set_cons_succ, List.getElem_toArray, List.getElem_cons_zero, List.getElem_cons_succ]
          (refine wpAnyH_take (i := 2) (v := ?v2x3) rfl (by kernel_rfl) (by kernel_rfl) (by kernel_rfl) (fun _ _ _ h => h) (Or.inl ⟨by rfl, ?hy2x3⟩) (by assumption) ?rest2x3; case hy2x3 => (intro w hSw; (try dsimp only at hSw); go_split_ands; go_simp; (try with_reducible rfl)))
          try simp only [Act.put, List.setIfInBounds_toArray, List.set_cons_zero, List.set_cons_succ, List.getElem_toArray, List.getElem_cons_zero, List.getElem_cons_succ]
          refine wpAnyH_ready (rs := [3]) (by kernel_rfl) (by simp) ?_
          refine AllReadyH.cons rfl (fun K hK => ?_) AllReadyH.nil
          go_simp
          refine (qq W9.drew _ (Own.sl (w := W9) o_n9.out)).mono ?_
          rintro e W10 ⟨rfl, b10⟩
          have b10 : Below W9.heap.size W9 W10 := (Below.drew (Below.refl _ _)).trans b10
          refine hK.out _ _ ⟨(keepR (W := W9) hHeld.1 b10), (keepR (W := W9) hHeld.2.1 b10), (keepR (W := W9) hHeld.2.2.1 b10), (keepR (W := W9) hHeld.2.2.2.1 b10), (keepR (W := W9) hHeld.2.2.2.2 b10)⟩ (fun hHeld => ?_)
          clear hK K
          try simp only [Act.put, List.setIfInBounds_toArray, List.set_cons_zero, List.set_cons_succ, List.getElem_toArray, List.getElem_cons_zero, List.getElem_cons_succ]
          have z10 : W9.heap.size ≤ W10.heap.size := b10.size
          have B10 : Hid (Below w.heap.size w W10) := B9.out.trans (b10.mono B9.out.size)
          have r_l10 : Hid (W10.heap[W2.heap.size]? = some (.cells #[.slice ao_n L_n cap_n, .int .i64 h.n, .string h.r] 26 (0, 0))) := rowKeep r_l9.out b10
          have r_res10 : Hid (W10.heap[w.heap.size]? = some (.cells #[.slice none 0 0, .int .i64 0, .string ⟨#[]⟩] 26 (0, 0))) := rowKeep r_res9.out b10
          have r_h10 : Hid (W10.heap[W5.heap.size]? = some (.cells #[.int .i64 h.n, .string h.r] 24 (0, 0))) := rowKeep r_h9.out b10
          have o_t10 : Hid (Own W10 (W4.heap.size) (W5.heap.size) 9 (.slice ao_t L_t cap_t) (ss x)) := Own.later o_t9.out b10 (by omega)
          have o_n10 : Hid (Own W10 (W3.heap.size) (W7.heap.size) 9 (.slice ao_n L_n cap_n) (ss (l ++ x))) := Own.later o_n9.out b10 (by omega)
          have c_l10_0 : W10.cell? ⟨W2.heap.size, 0, none⟩ = some (.slice ao_n L_n cap_n) := row_at r_l10.out 0
          have c_l10_1 : W10.cell? ⟨W2.heap.size, 1, none⟩ = some (.int .i64 h.n) := row_at r_l10.out 1
          have c_l10_2 : W10.cell? ⟨W2.heap.size, 2, none⟩ = some (.string h.r) := row_at r_l10.out 2
          have c_res10_0 : W10.cell? ⟨w.heap.size, 0, none⟩ = some (.slice none 0 0) := row_at r_res10.out 0
          have c_res10_1 : W10.cell? ⟨w.heap.size, 1, none⟩ = some (.int .i64 0) := row_at r_res10.out 1
          have c_res10_2 : W10.cell? ⟨w.heap.size, 2, none⟩ = some (.string ⟨#[]⟩) := row_at r_res10.out 2
          have c_h10_0 : W10.cell? ⟨W5.heap.size, 0, none⟩ = some (.int .i64 h.n) := row_at r_h10.out 0
          have c_h10_1 : W10.cell? ⟨W5.heap.size, 1, none⟩ = some (.string h.r) := row_at r_h10.out 1
          clear r_l9 c_l9_0 c_l9_1 c_l9_2 r_res9 c_res9_0 c_res9_1 c_res9_2 r_h9 c_h9_0 c_h9_1 o_t9 o_n9
          (refine wpAnyH_take (i := 4) (v := ?v4x4) rfl (by kernel_rfl) (by kernel_rfl) (by kernel_rfl) (fun _ _ _ h => h) (Or.inl ⟨by rfl, ?hy4x4⟩) (by assumption) ?rest4x4; case hy4x4 => (intro w hSw; (try dsimp only at hSw); go_split_ands; go_simp; (try with_reducible rfl)))
          try simp only [Act.put, List.setIfInBounds_toArray, List.set_cons_zero, List.set_cons_succ, List.getElem_toArray, List.getElem_cons_zero, List.getElem_cons_succ]
          refine wpAnyH_done (by kernel_rfl) ?_ _
          clear hHeld
          cases E
          · have HN : Hid (R = (l ++ x, h, false)) := H2.out (by first | exact rfl | trivial) h200 HE.out
            go_wp2_with (first | (refine wpList_load_row rfl 26 _ rfl (W2.heap.size) rfl 26 (lc (.slice ao_n L_n cap_n) h) (0, 0) _ r_l10.out Tryd.underlying26 rfl (sizeL _ _) ?_) | (refine wpList_store_row rfl 26 _ _ rfl (w.heap.size) (lc (.slice ao_n L_n cap_n) h) rfl rfl 26 _ r_res10.out (sizeL _ _) rfl (oneL _ rfl) ?_))
            refine bodyPost_ret (res_row_tmp rfl _ _ (w.heap.size) 26 (lc (.slice ao_n L_n cap_n) h) (0, 0) _ rfl (setRow_heap _ _ _ _ _ (0, 0) r_res10.out) Tryd.underlying26 rfl (sizeL _ _)) rfl ⟨.slice ao_n L_n cap_n, by rw [HN.out]; rfl, ?_, below_setRow B10.out (by omega) _⟩
            rw [HN.out]
            exact (Own.setRow o_n10.out _ (by omega)).mono (by omega) (by rw [size_setRow]; omega)
          · obtain ⟨q, rfl, hq1, hq2, hq3, hq4⟩ := H3.out HBY.out (by first | exact rfl | trivial) h200 HE.out
            have HQ3 : Hid (∀ s ∈ x, s.size ≤ 1000000000) := hq3
            have HQ4 : Hid (∃ f, xs.length - q ≤ f ∧ replayF f xs q (l ++ x) h = R) := hq4
            clear hq3 hq4
            go_wp2
            go_roundw
            case rel => exact ⟨q, l ++ x, h, ao_n, L_n, cap_n, hq2, rfl, HQ4, r_l10, r_res10, Own.mono o_n10.out (by omega) (by omega), B10, by omega, by rw [List.length_append]; omega, size_app HZ.out HQ3.out⟩
            case measure => simp [intOf]; omega
        · have d200 : (200 : Int) < (L_v : Int) + (L_t : Int) := by omega
          have HN : Hid (R = (l, hd, false)) := H1.out (fun h9 => h200 h9.2)
          go_wp2_with (first | ((try rw [HW6.out]); refine wpList_load_row rfl 26 _ rfl (W2.heap.size) rfl 26 (lc (.slice ao_v L_v cap_v) hd) (0, 0) _ r_l6.out Tryd.underlying26 rfl (sizeL _ _) ?_) | (refine wpList_store_row rfl 26 _ _ rfl (w.heap.size) (lc (.slice ao_v L_v cap_v) hd) rfl rfl 26 _ r_res6.out (sizeL _ _) rfl (oneL _ rfl) ?_))
          refine bodyPost_ret (res_row_tmp rfl _ _ (w.heap.size) 26 (lc (.slice ao_v L_v cap_v) hd) (0, 0) _ rfl (setRow_heap _ _ _ _ _ (0, 0) r_res6.out) Tryd.underlying26 rfl (sizeL _ _)) rfl ⟨.slice ao_v L_v cap_v, by rw [HN.out]; rfl, ?_, below_setRow B6.out (by omega) _⟩
          rw [HN.out]
          exact (Own.setRow o_v6.out _ (by omega)).mono (by omega) (by rw [size_setRow]; omega)
    · have HN : Hid (R = (l, hd, true)) := replay_end hlt HF.out
      go_wp2_with (first | (refine wpList_load_row rfl 26 _ rfl (W2.heap.size) rfl 26 (lc (.slice ao_v L_v cap_v) hd) (0, 0) _ r_l4.out Tryd.underlying26 rfl (sizeL _ _) ?_) | (refine wpList_store_row rfl 26 _ _ rfl (w.heap.size) (lc (.slice ao_v L_v cap_v) hd) rfl rfl 26 _ r_res4.out (sizeL _ _) rfl (oneL _ rfl) ?_))
      refine bodyPost_ret (res_row_tmp rfl _ _ (w.heap.size) 26 (lc (.slice ao_v L_v cap_v) hd) (0, 0) _ rfl (setRow_heap _ _ _ _ _ (0, 0) r_res4.out) Tryd.underlying26 rfl (sizeL _ _)) rfl ⟨.slice ao_v L_v cap_v, by rw [HN.out]; rfl, ?_, below_setRow B4.out (by omega) _⟩
      rw [HN.out]
      exact (Own.setRow o_v4.out _ (by omega)).mono (by omega) (by rw [size_setRow]; omega)

end Go.Proofs.YtfpaichdkddglabDoor.Sr

/- Chapter 8: clashes, plain facts alone. -/
namespace Go.Proofs.YtfpaichdkddglabDoor.Cl
open Go.RowKit Go.Proofs.YtfpaichdkddglabDoor.Mem Go.Proofs.YtfpaichdkddglabDoor.Laws Go.Proofs.YtfpaichdkddglabDoor.Sha Go.Proofs.YtfpaichdkddglabDoor.Tr
set_option linter.unusedVariables false
set_option linter.unusedSimpArgs false

/-- what a leaf's hash, a node's, is the digest of -/
def leafT (s : ByteArray) : ByteArray := Plain.txt (0 :: sb s)
def nodeT (a b : ByteArray) : ByteArray := Plain.txt (1 :: (sb a ++ sb b))
theorem byt0 (s : ByteArray) : Byt (0 :: sb s) := by
  intro x hx
  rcases List.mem_cons.1 hx with rfl | hx
  · omega
  · exact sb_byt s x hx
theorem byt1 (a b : ByteArray) : Byt (1 :: (sb a ++ sb b)) := by
  intro x hx
  rcases List.mem_cons.1 hx with rfl | hx
  · omega
  · exact ((sb_byt a).app (sb_byt b)) x hx
theorem sb_leafT (s : ByteArray) : sb (leafT s) = 0 :: sb s := sb_txt (byt0 s)
theorem sb_nodeT (a b : ByteArray) : sb (nodeT a b) = 1 :: (sb a ++ sb b) := sb_txt (byt1 a b)
theorem sb_inj {a b : ByteArray} (h : sb a = sb b) : a = b := by
  have h1 : a.data.toList = b.data.toList := by
    unfold sb at h
    refine List.map_inj_right (f := fun x : UInt8 => (x.toNat : Int)) ?_ |>.1 h
    intro x y hxy
    exact UInt8.toNat_inj.1 (by omega)
  cases a
  cases b
  simp only at h1
  rw [Array.ext' h1]
theorem leafT_inj {s t : ByteArray} (h : leafT s = leafT t) : s = t := by
  have := congrArg sb h
  rw [sb_leafT, sb_leafT] at this
  exact sb_inj (List.cons.inj this).2
theorem nodeT_inj {a b x y : ByteArray} (ha : a.size = x.size) (h : nodeT a b = nodeT x y) : a = x ∧ b = y := by
  have := congrArg sb h
  rw [sb_nodeT, sb_nodeT] at this
  have h2 := List.append_inj (List.cons.inj this).2 (by rw [sb_len, sb_len, ha])
  exact ⟨sb_inj h2.1, sb_inj h2.2⟩
/-- the digest of a text -/
def dg (s : ByteArray) : ByteArray := Plain.txt (digest (sb s))
theorem dg_leafT (s : ByteArray) : dg (leafT s) = leafH s := by unfold dg leafH; rw [sb_leafT]
theorem dg_nodeT (a b : ByteArray) : dg (nodeT a b) = nodeH a b := by unfold dg nodeH; rw [sb_nodeT]
theorem dg_size (s : ByteArray) : (dg s).size = 32 := by unfold dg; rw [txt_size, digest_len]

/-- two unlike texts of unlike lists as long (f: more than they have) -/
def clashF : Nat → List ByteArray → List ByteArray → ByteArray × ByteArray
  | 0, _, _ => (⟨#[]⟩, ⟨#[]⟩)
  | f + 1, l, m =>
    if 2 ≤ l.length then
      (if root (l.take (half l.length)) = root (m.take (half l.length)) ∧ root (l.drop (half l.length)) = root (m.drop (half l.length)) then
        (if l.take (half l.length) = m.take (half l.length) then clashF f (l.drop (half l.length)) (m.drop (half l.length))
         else clashF f (l.take (half l.length)) (m.take (half l.length)))
       else (nodeT (root (l.take (half l.length))) (root (l.drop (half l.length))), nodeT (root (m.take (half l.length))) (root (m.drop (half l.length)))))
    else (leafT (l.headD ⟨#[]⟩), leafT (m.headD ⟨#[]⟩))
theorem clashF_any : ∀ (f g : Nat) (l m : List ByteArray), l.length < f → l.length < g → clashF f l m = clashF g l m := by
  intro f
  induction f with
  | zero => intro g l m hf; omega
  | succ f ih =>
    intro g l m hf hg
    cases g with
    | zero => omega
    | succ g =>
      by_cases h : 2 ≤ l.length
      · have h1 := take_lt h
        have h2 := drop_lt h
        rw [clashF, clashF, if_pos h, if_pos h, ih g (l.drop (half l.length)) (m.drop (half l.length)) (by omega) (by omega), ih g (l.take (half l.length)) (m.take (half l.length)) (by omega) (by omega)]
      · rw [clashF, clashF, if_neg h, if_neg h]
def clash (l m : List ByteArray) : ByteArray × ByteArray := clashF (l.length + 1) l m
theorem clash_if (l m : List ByteArray) : clash l m = if 2 ≤ l.length then
      (if root (l.take (half l.length)) = root (m.take (half l.length)) ∧ root (l.drop (half l.length)) = root (m.drop (half l.length)) then
        (if l.take (half l.length) = m.take (half l.length) then clash (l.drop (half l.length)) (m.drop (half l.length))
         else clash (l.take (half l.length)) (m.take (half l.length)))
       else (nodeT (root (l.take (half l.length))) (root (l.drop (half l.length))), nodeT (root (m.take (half l.length))) (root (m.drop (half l.length)))))
    else (leafT (l.headD ⟨#[]⟩), leafT (m.headD ⟨#[]⟩)) := by
  unfold clash
  by_cases h : 2 ≤ l.length
  · have h1 := take_lt h
    have h2 := drop_lt h
    rw [clashF, if_pos h, if_pos h, clashF_any l.length ((l.drop (half l.length)).length + 1) (l.drop (half l.length)) (m.drop (half l.length)) (by omega) (by omega), clashF_any l.length ((l.take (half l.length)).length + 1) (l.take (half l.length)) (m.take (half l.length)) (by omega) (by omega)]
  · rw [clashF, if_neg h, if_neg h]
/-- of unlike lists as long they are unlike, and of one digest just if the roots are the same -/
theorem clash_ok (l : List ByteArray) : ∀ (m : List ByteArray), l.length = m.length → l ≠ m → (clash l m).1 ≠ (clash l m).2 ∧ (dg (clash l m).1 = dg (clash l m).2 ↔ root l = root m) := by
  refine lenRec (P := fun l => ∀ (m : List ByteArray), l.length = m.length → l ≠ m → (clash l m).1 ≠ (clash l m).2 ∧ (dg (clash l m).1 = dg (clash l m).2 ↔ root l = root m)) ?_ l
  intro l ih m hlm hne
  rw [clash_if]
  by_cases h : 2 ≤ l.length
  · have hk := half_ok h
    have hp := half_pos h
    have hm : 2 ≤ m.length := by omega
    have lt : (l.take (half l.length)).length = (m.take (half l.length)).length := by rw [List.length_take, List.length_take, hlm]
    have ld : (l.drop (half l.length)).length = (m.drop (half l.length)).length := by rw [List.length_drop, List.length_drop, hlm]
    have rm : root m = nodeH (root (m.take (half l.length))) (root (m.drop (half l.length))) := by rw [root_more hm, ← hlm]
    rw [if_pos h]
    by_cases hr : root (l.take (half l.length)) = root (m.take (half l.length)) ∧ root (l.drop (half l.length)) = root (m.drop (half l.length))
    · rw [if_pos hr]
      have hroot : root l = root m := by rw [root_more h, rm, hr.1, hr.2]
      by_cases hs : l.take (half l.length) = m.take (half l.length)
      · rw [if_pos hs]
        have hd : l.drop (half l.length) ≠ m.drop (half l.length) := by
          intro e
          apply hne
          rw [← List.take_append_drop (half l.length) l, hs, e, List.take_append_drop]
        obtain ⟨a, b⟩ := ih (l.drop (half l.length)) (drop_lt h) (m.drop (half l.length)) ld hd
        exact ⟨a, fun _ => hroot, fun _ => b.2 hr.2⟩
      · rw [if_neg hs]
        obtain ⟨a, b⟩ := ih (l.take (half l.length)) (take_lt h) (m.take (half l.length)) lt hs
        exact ⟨a, fun _ => hroot, fun _ => b.2 hr.1⟩
    · rw [if_neg hr]
      refine ⟨fun e => hr (nodeT_inj (by rw [root_size, root_size]) e), ?_⟩
      show dg (nodeT _ _) = dg (nodeT _ _) ↔ _
      rw [dg_nodeT, dg_nodeT, root_more h, rm]
  · rw [if_neg h]
    match l, m, hlm, hne, h with
    | [], [], _, hne, _ => exact absurd rfl hne
    | [s], [t], _, hne, _ =>
      have hst : s ≠ t := fun e => hne (by rw [e])
      refine ⟨fun e => hst (leafT_inj e), ?_⟩
      show dg (leafT s) = dg (leafT t) ↔ root [s] = root [t]
      rw [dg_leafT, dg_leafT, root_one, root_one]
    | _ :: _ :: _, _, _, _, h => simp at h

end Go.Proofs.YtfpaichdkddglabDoor.Cl

/- Chapter 8: lists that are the same; what a leaf's and a node's hash is the digest of (the specification's side). -/
namespace Go.Proofs.YtfpaichdkddglabDoor.Cl
open Go.RowKit Go.Proofs.YtfpaichdkddglabDoor.Mem Go.Proofs.YtfpaichdkddglabDoor.Laws Go.Proofs.YtfpaichdkddglabDoor.Bytes Go.Proofs.YtfpaichdkddglabDoor.Sha Go.Proofs.YtfpaichdkddglabDoor.Tr
set_option linter.unusedVariables false
set_option linter.unusedSimpArgs false

theorem beq_yes {a b : ByteArray} (h : a = b) : (a.toList == b.toList) = true := by rw [h]; simp
theorem beq_no {a b : ByteArray} (h : a ≠ b) : (a.toList == b.toList) = false := by
  rw [beq_eq_false_iff_ne, ByteArray.toList_eq, ByteArray.toList_eq]
  intro e
  apply h
  cases a
  cases b
  simp only at e
  rw [Array.ext' e]
theorem eq6_iff (a b : ByteArray) : eq6 a b = true ↔ a = b := by
  unfold eq6
  refine ⟨fun h => ?_, beq_yes⟩
  by_cases e : a = b
  · exact e
  · rw [beq_no e] at h; cases h

theorem Sl.form {w : World} {v : Value} {cs : List Value} (h : Sl w v cs) : ∃ (ao : Option Addr) (cap : Nat), v = .slice ao cs.length cap ∧ cs.length ≤ cap := by
  obtain ⟨ao, cap, rfl, hc, _⟩ := h
  exact ⟨ao, cap, rfl, hc⟩

set_option maxRecDepth 1000000 in
set_option maxHeartbeats 1000000 in
/-- whether two lists are the same -/
theorem same_spec (w : World) (v1 v2 : Value) (l m : List ByteArray) (t : Bool) (ht : t = true ↔ l = m) (h1 : Sl w v1 (ss l)) (h2 : Sl w v2 (ss m)) (hl : l.length ≤ 1000000000000) (hm : m.length ≤ 1000000000000) :
    Calls Tryd.prog 27 #[v1, v2] w fun e w' => e = .returned (.bool t) ∧ (∀ B, Below B w w') ∧ w'.heap.size = w.heap.size := by
  obtain ⟨ao, cap, rfl, hc1, _, hr1⟩ := h1
  obtain ⟨bo, cap2, rfl, hc2, _, hr2⟩ := h2
  rw [ss_len] at hr1 hr2 hc1 hc2
  rw [ss_len, ss_len]
  have HT : Hid (t = true ↔ l = m) := ht
  clear ht
  by_cases hlm : l.length = m.length
  · have dn : ((l.length : Int) == (m.length : Int)) = true := by rw [beq_iff_eq]; omega
    have HLM : Hid (l.length = m.length) := hlm
    have hlm1 : l.length ≤ m.length := by omega
    have hlm2 : m.length ≤ l.length := by omega
    clear hlm
    go_enter Tryd.func27, Tryd.ntmps27
    go_wp2
    go_loopw [5] (fun i wr => ∃ k n : Nat, k ≤ l.length ∧ i = .int .i64 k ∧ Hid (l.take k = m.take k) ∧ wr = w.drewN n) (fun i _ => l.length - (intOf i).toNat)
    case atStart => exact ⟨0, 0, Nat.zero_le _, rfl, rfl, rfl⟩
    case round =>
      obtain ⟨k, n, hk, rfl, HK, rfl⟩ := hrel
      by_cases hlt : k < l.length
      · obtain ⟨b, off, s, rfl, hx0, hcell⟩ := Sl.strAt hr1 rfl hlt
        obtain ⟨b2, off2, s2, rfl, hy0, hcell2⟩ := Sl.strAt hr2 rfl (show k < m.length by omega)
        have hlt' : (k : Int) < (m.length : Int) := by omega
        by_cases hst : s = s2
        · subst hst
          have HN : Hid (l.take (k + 1) = m.take (k + 1)) := by
            show _ = _
            rw [List.take_add_one, List.take_add_one, HK.out, hx0, hy0]
          clear hx0 hy0 hr1 hr2 HK
          go_wp2
          go_quiet (fail)
          go_wp2
          go_roundw
          case rel => exact ⟨k + 1, n + nq, by omega, by go_num, HN, rfl⟩
          case measure => simp [intOf]; omega
        · have HF : Hid (t = false) := by
            show _ = _
            cases t with
            | false => rfl
            | true =>
              have e := HT.out.1 rfl
              subst e
              rw [hx0] at hy0
              exact absurd (Option.some.inj hy0) hst
          have dq := beq_no hst
          clear hx0 hy0 hr1 hr2 HK hst
          go_wp2
          go_quiet (fail)
          go_wp2
          go_ret
          exact ⟨by rw [HF.out]; rfl, fun B => below_drewN (below_drewN (Below.refl _ _) _) _, rfl⟩
      · have HF : Hid (t = true) := by
          show _ = _
          refine HT.out.2 ?_
          have h := HK.out
          rwa [List.take_of_length_le (by omega), List.take_of_length_le (by omega)] at h
        clear hr1 hr2 HK
        go_wp2
        go_ret
        exact ⟨by rw [HF.out]; rfl, fun B => below_drewN (Below.refl _ _) n, rfl⟩
  · have HF : Hid (t = false) := by
      show _ = _
      cases t with
      | false => rfl
      | true => exact absurd (congrArg List.length (HT.out.1 rfl)) hlm
    have dn : ((l.length : Int) == (m.length : Int)) = false := by rw [beq_eq_false_iff_ne]; omega
    clear hr1 hr2 hlm
    go_enter Tryd.func27, Tryd.ntmps27
    go_wp2
    go_ret
    exact ⟨by rw [HF.out]; rfl, fun B => Below.refl _ _, rfl⟩

set_option maxRecDepth 1000000 in
set_option maxHeartbeats 1000000 in
/-- whether two lists are the same -/
theorem same_impl (w : World) (v1 v2 : Value) (l m : List ByteArray) (t : Bool) (ht : t = true ↔ l = m) (h1 : Sl w v1 (ss l)) (h2 : Sl w v2 (ss m)) (hl : l.length ≤ 1000000000000) (hm : m.length ≤ 1000000000000) :
    Calls Tryd.prog 45 #[v1, v2] w fun e w' => e = .returned (.bool t) ∧ (∀ B, Below B w w') ∧ w'.heap.size = w.heap.size := by
  obtain ⟨ao, cap, rfl, hc1, _, hr1⟩ := h1
  obtain ⟨bo, cap2, rfl, hc2, _, hr2⟩ := h2
  rw [ss_len] at hr1 hr2 hc1 hc2
  rw [ss_len, ss_len]
  have HT : Hid (t = true ↔ l = m) := ht
  clear ht
  by_cases hlm : l.length = m.length
  · have dn : ((l.length : Int) == (m.length : Int)) = true := by rw [beq_iff_eq]; omega
    have HLM : Hid (l.length = m.length) := hlm
    have hlm1 : l.length ≤ m.length := by omega
    have hlm2 : m.length ≤ l.length := by omega
    clear hlm
    go_enter Tryd.func45, Tryd.ntmps45
    go_wp2
    go_loopw [13] (fun i wr => ∃ k n : Nat, k ≤ l.length ∧ i = .int .i64 k ∧ Hid (l.take k = m.take k) ∧ wr = w.drewN n) (fun i _ => l.length - (intOf i).toNat)
    case atStart => exact ⟨0, 0, Nat.zero_le _, rfl, rfl, rfl⟩
    case round =>
      obtain ⟨k, n, hk, rfl, HK, rfl⟩ := hrel
      by_cases hlt : k < l.length
      · obtain ⟨b, off, s, rfl, hx0, hcell⟩ := Sl.strAt hr1 rfl hlt
        obtain ⟨b2, off2, s2, rfl, hy0, hcell2⟩ := Sl.strAt hr2 rfl (show k < m.length by omega)
        have hlt' : (k : Int) < (m.length : Int) := by omega
        by_cases hst : s = s2
        · subst hst
          have HN : Hid (l.take (k + 1) = m.take (k + 1)) := by
            show _ = _
            rw [List.take_add_one, List.take_add_one, HK.out, hx0, hy0]
          clear hx0 hy0 hr1 hr2 HK
          go_wp2
          go_quiet (fail)
          go_wp2
          go_roundw
          case rel => exact ⟨k + 1, n + nq, by omega, by go_num, HN, rfl⟩
          case measure => simp [intOf]; omega
        · have HF : Hid (t = false) := by
            show _ = _
            cases t with
            | false => rfl
            | true =>
              have e := HT.out.1 rfl
              subst e
              rw [hx0] at hy0
              exact absurd (Option.some.inj hy0) hst
          have dq := beq_no hst
          clear hx0 hy0 hr1 hr2 HK hst
          go_wp2
          go_quiet (fail)
          go_wp2
          go_ret
          exact ⟨by rw [HF.out]; rfl, fun B => below_drewN (below_drewN (Below.refl _ _) _) _, rfl⟩
      · have HF : Hid (t = true) := by
          show _ = _
          refine HT.out.2 ?_
          have h := HK.out
          rwa [List.take_of_length_le (by omega), List.take_of_length_le (by omega)] at h
        clear hr1 hr2 HK
        go_wp2
        go_ret
        exact ⟨by rw [HF.out]; rfl, fun B => below_drewN (Below.refl _ _) n, rfl⟩
  · have HF : Hid (t = false) := by
      show _ = _
      cases t with
      | false => rfl
      | true => exact absurd (congrArg List.length (HT.out.1 rfl)) hlm
    have dn : ((l.length : Int) == (m.length : Int)) = false := by rw [beq_eq_false_iff_ne]; omega
    clear hr1 hr2 hlm
    go_enter Tryd.func45, Tryd.ntmps45
    go_wp2
    go_ret
    exact ⟨by rw [HF.out]; rfl, fun B => Below.refl _ _, rfl⟩

end Go.Proofs.YtfpaichdkddglabDoor.Cl

/- Chapter 12, the specification's side: stores that are right; all is sure. -/
namespace Go.Proofs.YtfpaichdkddglabDoor.Sr
open Go.RowKit Go.Proofs.YtfpaichdkddglabDoor.Mem Go.Proofs.YtfpaichdkddglabDoor.Laws Go.Proofs.YtfpaichdkddglabDoor.Bytes Go.Proofs.YtfpaichdkddglabDoor.Sha Go.Proofs.YtfpaichdkddglabDoor.Tr Go.Proofs.YtfpaichdkddglabDoor.He Go.Proofs.YtfpaichdkddglabDoor.Lg
set_option linter.unusedVariables false
set_option linter.unusedSimpArgs false

theorem replayF_len (xs : List Int) : ∀ (f a : Nat) (l : List ByteArray) (hd : Hd), l.length ≤ 200 → (replayF f xs a l hd).1.length ≤ 200 := by
  intro f
  induction f with
  | zero => intro a l hd h; exact h
  | succ f ih =>
    intro a l hd h
    rw [replayF]
    split
    · split
      · rename_i hc
        split
        · exact ih _ _ _ (by rw [List.length_append]; exact hc.2)
        · rw [List.length_append]; exact hc.2
      · exact h
    · exact h
theorem replay_len (xs : List Int) : (replay xs).1.length ≤ 200 := replayF_len xs _ _ _ _ (Nat.zero_le _)

set_option maxRecDepth 1000000 in
set_option maxHeartbeats 4000000 in
theorem storeok_spec (w : World) (v vb : Value) (st : Sto) (hs : Sl w v (ss st.l)) (hb : Sl w vb (bs st.b)) (hby : Byt st.b) (hl : st.l.length ≤ 1000000000) (hbl : st.b.length ≤ 1000000000) (hz : ∀ s ∈ st.l, s.size ≤ 10000000000) :
    Calls Tryd.prog 11 #[.agg #[v, .int .i64 st.h.n, .string st.h.r, vb, .int .i64 st.s]] w fun e w' => e = .returned (.bool (storeOk st)) ∧ Below w.heap.size w w' := by
  obtain ⟨R, hR⟩ : ∃ R, storeOk st = R := ⟨_, rfl⟩
  have HR : Hid (storeOk st = R) := hR
  rw [hR]
  obtain ⟨l, h, b, s⟩ := st
  simp only at *
  have HS : Hid (Sl w v (ss l)) := hs
  have HSB : Hid (Sl w vb (bs b)) := hb
  have HBY : Hid (Byt b) := hby
  obtain ⟨ao0, cap0, rfl, hc0⟩ := hs.form
  obtain ⟨ao1, cap1, rfl, hc1⟩ := hb.form
  simp only [ss_len, bs_len] at *
  clear hs hb hby hR
  have B0 : Hid (Below w.heap.size w w) := Below.refl _ _
  obtain ⟨W1, HW1, b1, y1, hS1, r_a1⟩ : ∃ X, Hid ((w.alloc (.cells #[.slice ao0 l.length cap0, .int .i64 h.n, .string h.r, .slice ao1 b.length cap1, .int .i64 s] 29)) = X) ∧ Below w.heap.size w X ∧ w.heap.size + 1 ≤ X.heap.size ∧ Hid (X.heap.size = w.heap.size + 1) ∧ Hid (X.heap[w.heap.size]? = some (.cells #[.slice ao0 l.length cap0, .int .i64 h.n, .string h.r, .slice ao1 b.length cap1, .int .i64 s] 29 (0, 0))) := ⟨_, rfl, ((Below.refl _ _).alloc (Nat.le_refl _) _), by simp, by show _ = _; simp, (by show _ = _; exact alloc_nth1_0 w _)⟩
  have z1 : w.heap.size ≤ W1.heap.size := b1.size
  have B1 : Hid (Below w.heap.size w W1) := B0.out.trans (b1.mono B0.out.size)
  have c_a1_0 : W1.cell? ⟨w.heap.size, 0, none⟩ = some (.slice ao0 l.length cap0) := row_at r_a1.out 0
  have c_a1_1 : W1.cell? ⟨w.heap.size, 1, none⟩ = some (.int .i64 h.n) := row_at r_a1.out 1
  have c_a1_2 : W1.cell? ⟨w.heap.size, 2, none⟩ = some (.string h.r) := row_at r_a1.out 2
  have c_a1_3 : W1.cell? ⟨w.heap.size, 3, none⟩ = some (.slice ao1 b.length cap1) := row_at r_a1.out 3
  have c_a1_4 : W1.cell? ⟨w.heap.size, 4, none⟩ = some (.int .i64 s) := row_at r_a1.out 4
  have q1 : ∀ W v1, Sl W v1 (ss l) → _ := fun W v1 h1 => logok_spec W v1 l h h1 (by omega) hz
  obtain ⟨A, hA⟩ : ∃ A, logOk l h = A := ⟨_, rfl⟩
  simp only [hA] at q1
  have HA : Hid (logOk l h = A) := hA
  clear hA hz
  have q3 : ∀ W v1, Sl W v1 (bs b) → _ := fun W v1 h1 => replay_spec W v1 b h1 HBY.out (by omega)
  have hRl := replay_len b
  obtain ⟨E, hE⟩ : ∃ E, replay b = E := ⟨_, rfl⟩
  simp only [hE] at q3
  rw [hE] at hRl
  have HE : Hid (replay b = E) := hE
  obtain ⟨L, H, ok⟩ := E
  simp only at q3 hRl
  clear hE
  have HD : Hid (R = (A && decide (b.length ≤ 60000) && decide (0 ≤ s ∧ s ≤ (b.length : Int)) && ok && decide (L = l))) := by
    show _ = _
    rw [← HR.out]
    unfold storeOk
    simp only
    rw [HA.out, HE.out]
  go_enter Tryd.func11, Tryd.ntmps11
  go_wp2_with fail
  rw [HW1.out]
  refine (q1 W1 _ (HS.out.later B1.out)).mono ?_
  rintro e W2 ⟨rfl, b2⟩
  have z2 : W1.heap.size ≤ W2.heap.size := b2.size
  have B2 : Hid (Below w.heap.size w W2) := B1.out.trans (b2.mono B1.out.size)
  have r_a2 : Hid (W2.heap[w.heap.size]? = some (.cells #[.slice ao0 l.length cap0, .int .i64 h.n, .string h.r, .slice ao1 b.length cap1, .int .i64 s] 29 (0, 0))) := rowKeep r_a1.out b2
  have c_a2_0 : W2.cell? ⟨w.heap.size, 0, none⟩ = some (.slice ao0 l.length cap0) := row_at r_a2.out 0
  have c_a2_1 : W2.cell? ⟨w.heap.size, 1, none⟩ = some (.int .i64 h.n) := row_at r_a2.out 1
  have c_a2_2 : W2.cell? ⟨w.heap.size, 2, none⟩ = some (.string h.r) := row_at r_a2.out 2
  have c_a2_3 : W2.cell? ⟨w.heap.size, 3, none⟩ = some (.slice ao1 b.length cap1) := row_at r_a2.out 3
  have c_a2_4 : W2.cell? ⟨w.heap.size, 4, none⟩ = some (.int .i64 s) := row_at r_a2.out 4
  clear r_a1 c_a1_0 c_a1_1 c_a1_2 c_a1_3 c_a1_4
  cases A
  · have HN : Hid (R = false) := by show _ = _; rw [HD.out]; simp
    go_wp2
    go_ret
    exact ⟨by rw [HN.out]; rfl, B2.out⟩
  · by_cases h6 : b.length ≤ 60000
    · have d6 : ¬ (60000 : Int) < (b.length : Int) := by omega
      by_cases hin : 0 ≤ s ∧ s ≤ (b.length : Int)
      · have q2 := in6t W2 hin
        have HIN : Hid (0 ≤ s ∧ s ≤ (b.length : Int)) := hin
        clear hin
        go_wp2_with fail
        refine q2.mono ?_
        rintro e W_ ⟨rfl, hW_⟩
        subst hW_
        clear q2
        go_wp2_with fail
        refine (q3 W2 _ (HSB.out.later B2.out)).mono ?_
        rintro e W3 ⟨v_n, rfl, o_n3, b3⟩
        obtain ⟨ao_n, L_n, cap_n, rfl, hL_n, hM_n⟩ := o_n3.form
        have o_n3 : Hid (Own W3 W2.heap.size W3.heap.size 9 (.slice ao_n L_n cap_n) (ss L)) := o_n3
        clear hL_n hM_n
        have z3 : W2.heap.size ≤ W3.heap.size := b3.size
        have B3 : Hid (Below w.heap.size w W3) := B2.out.trans (b3.mono B2.out.size)
        have r_a3 : Hid (W3.heap[w.heap.size]? = some (.cells #[.slice ao0 l.length cap0, .int .i64 h.n, .string h.r, .slice ao1 b.length cap1, .int .i64 s] 29 (0, 0))) := rowKeep r_a2.out b3
        have c_a3_0 : W3.cell? ⟨w.heap.size, 0, none⟩ = some (.slice ao0 l.length cap0) := row_at r_a3.out 0
        have c_a3_1 : W3.cell? ⟨w.heap.size, 1, none⟩ = some (.int .i64 h.n) := row_at r_a3.out 1
        have c_a3_2 : W3.cell? ⟨w.heap.size, 2, none⟩ = some (.string h.r) := row_at r_a3.out 2
        have c_a3_3 : W3.cell? ⟨w.heap.size, 3, none⟩ = some (.slice ao1 b.length cap1) := row_at r_a3.out 3
        have c_a3_4 : W3.cell? ⟨w.heap.size, 4, none⟩ = some (.int .i64 s) := row_at r_a3.out 4
        clear r_a2 c_a2_0 c_a2_1 c_a2_2 c_a2_3 c_a2_4
        have a_a3_0 : ∀ o, (W3.alloc o).cell? ⟨w.heap.size, 0, none⟩ = some (.slice ao0 l.length cap0) := fun o => keepR c_a3_0 ((Below.refl _ _).alloc (Nat.le_refl _) o)
        have a_a3_1 : ∀ o, (W3.alloc o).cell? ⟨w.heap.size, 1, none⟩ = some (.int .i64 h.n) := fun o => keepR c_a3_1 ((Below.refl _ _).alloc (Nat.le_refl _) o)
        have a_a3_2 : ∀ o, (W3.alloc o).cell? ⟨w.heap.size, 2, none⟩ = some (.string h.r) := fun o => keepR c_a3_2 ((Below.refl _ _).alloc (Nat.le_refl _) o)
        have a_a3_3 : ∀ o, (W3.alloc o).cell? ⟨w.heap.size, 3, none⟩ = some (.slice ao1 b.length cap1) := fun o => keepR c_a3_3 ((Below.refl _ _).alloc (Nat.le_refl _) o)
        have a_a3_4 : ∀ o, (W3.alloc o).cell? ⟨w.heap.size, 4, none⟩ = some (.int .i64 s) := fun o => keepR c_a3_4 ((Below.refl _ _).alloc (Nat.le_refl _) o)
        obtain ⟨W4, HW4, b4, y4, hS4, r_l4⟩ : ∃ X, Hid ((W3.alloc (.cells #[.slice ao_n L_n cap_n, .int .i64 H.n, .string H.r] 26)) = X) ∧ Below W3.heap.size W3 X ∧ W3.heap.size + 1 ≤ X.heap.size ∧ Hid (X.heap.size = W3.heap.size + 1) ∧ Hid (X.heap[W3.heap.size]? = some (.cells #[.slice ao_n L_n cap_n, .int .i64 H.n, .string H.r] 26 (0, 0))) := ⟨_, rfl, ((Below.refl _ _).alloc (Nat.le_refl _) _), by simp, by show _ = _; simp, (by show _ = _; exact alloc_nth1_0 W3 _)⟩
        have z4 : W3.heap.size ≤ W4.heap.size := b4.size
        have B4 : Hid (Below w.heap.size w W4) := B3.out.trans (b4.mono B3.out.size)
        have r_a4 : Hid (W4.heap[w.heap.size]? = some (.cells #[.slice ao0 l.length cap0, .int .i64 h.n, .string h.r, .slice ao1 b.length cap1, .int .i64 s] 29 (0, 0))) := rowKeep r_a3.out b4
        have o_n4 : Hid (Own W4 (W2.heap.size) (W3.heap.size) 9 (.slice ao_n L_n cap_n) (ss L)) := Own.later o_n3.out b4 (by omega)
        have c_a4_0 : W4.cell? ⟨w.heap.size, 0, none⟩ = some (.slice ao0 l.length cap0) := row_at r_a4.out 0
        have c_a4_1 : W4.cell? ⟨w.heap.size, 1, none⟩ = some (.int .i64 h.n) := row_at r_a4.out 1
        have c_a4_2 : W4.cell? ⟨w.heap.size, 2, none⟩ = some (.string h.r) := row_at r_a4.out 2
        have c_a4_3 : W4.cell? ⟨w.heap.size, 3, none⟩ = some (.slice ao1 b.length cap1) := row_at r_a4.out 3
        have c_a4_4 : W4.cell? ⟨w.heap.size, 4, none⟩ = some (.int .i64 s) := row_at r_a4.out 4
        have c_l4_0 : W4.cell? ⟨W3.heap.size, 0, none⟩ = some (.slice ao_n L_n cap_n) := row_at r_l4.out 0
        have c_l4_1 : W4.cell? ⟨W3.heap.size, 1, none⟩ = some (.int .i64 H.n) := row_at r_l4.out 1
        have c_l4_2 : W4.cell? ⟨W3.heap.size, 2, none⟩ = some (.string H.r) := row_at r_l4.out 2
        clear r_a3 c_a3_0 c_a3_1 c_a3_2 c_a3_3 c_a3_4 o_n3
        cases ok
        · clear q1 q3
          have HN : Hid (R = false) := by show _ = _; rw [HD.out]; simp
          go_wp2_with fail
          rw [HW4.out]
          clear a_a3_0 a_a3_1 a_a3_2 a_a3_3 a_a3_4
          go_ret
          exact ⟨by rw [HN.out]; rfl, B4.out⟩
        · obtain ⟨F, hF⟩ : ∃ F, decide (L = l) = F := ⟨_, rfl⟩
          have hF2 : F = true ↔ L = l := by rw [← hF]; exact decide_eq_true_iff
          have q4 : ∀ W v1 v2, Sl W v1 (ss L) → Sl W v2 (ss l) → _ := fun W v1 v2 h1 h2 => Cl.same_spec W v1 v2 L l F hF2 h1 h2 (by omega) (by omega)
          have HN : Hid (R = F) := by show _ = _; rw [HD.out, hF]; simp [h6, HIN.out]
          clear hF hF2
          go_wp2_with fail
          rw [HW4.out]
          clear a_a3_0 a_a3_1 a_a3_2 a_a3_3 a_a3_4
          refine (q4 W4 _ _ o_n4.out.sl (HS.out.later B4.out)).mono ?_
          rintro e W5 ⟨rfl, h5, _⟩
          have b5 : Below W4.heap.size W4 W5 := h5 _
          clear h5
          have z5 : W4.heap.size ≤ W5.heap.size := b5.size
          have B5 : Hid (Below w.heap.size w W5) := B4.out.trans (b5.mono B4.out.size)
          have r_a5 : Hid (W5.heap[w.heap.size]? = some (.cells #[.slice ao0 l.length cap0, .int .i64 h.n, .string h.r, .slice ao1 b.length cap1, .int .i64 s] 29 (0, 0))) := rowKeep r_a4.out b5
          have r_l5 : Hid (W5.heap[W3.heap.size]? = some (.cells #[.slice ao_n L_n cap_n, .int .i64 H.n, .string H.r] 26 (0, 0))) := rowKeep r_l4.out b5
          have o_n5 : Hid (Own W5 (W2.heap.size) (W3.heap.size) 9 (.slice ao_n L_n cap_n) (ss L)) := Own.later o_n4.out b5 (by omega)
          have c_a5_0 : W5.cell? ⟨w.heap.size, 0, none⟩ = some (.slice ao0 l.length cap0) := row_at r_a5.out 0
          have c_a5_1 : W5.cell? ⟨w.heap.size, 1, none⟩ = some (.int .i64 h.n) := row_at r_a5.out 1
          have c_a5_2 : W5.cell? ⟨w.heap.size, 2, none⟩ = some (.string h.r) := row_at r_a5.out 2
          have c_a5_3 : W5.cell? ⟨w.heap.size, 3, none⟩ = some (.slice ao1 b.length cap1) := row_at r_a5.out 3
          have c_a5_4 : W5.cell? ⟨w.heap.size, 4, none⟩ = some (.int .i64 s) := row_at r_a5.out 4
          have c_l5_0 : W5.cell? ⟨W3.heap.size, 0, none⟩ = some (.slice ao_n L_n cap_n) := row_at r_l5.out 0
          have c_l5_1 : W5.cell? ⟨W3.heap.size, 1, none⟩ = some (.int .i64 H.n) := row_at r_l5.out 1
          have c_l5_2 : W5.cell? ⟨W3.heap.size, 2, none⟩ = some (.string H.r) := row_at r_l5.out 2
          clear r_a4 c_a4_0 c_a4_1 c_a4_2 c_a4_3 c_a4_4 r_l4 c_l4_0 c_l4_1 c_l4_2 o_n4
          go_wp2
          go_ret
          exact ⟨by rw [HN.out]; rfl, B5.out⟩
      · have q2 := in6f W2 hin
        have HIN : Hid (¬ (0 ≤ s ∧ s ≤ (b.length : Int))) := hin
        clear hin
        go_wp2_with fail
        refine q2.mono ?_
        rintro e W_ ⟨rfl, hW_⟩
        subst hW_
        clear q2
        have HN : Hid (R = false) := by show _ = _; rw [HD.out]; rw [decide_eq_false HIN.out]; simp
        go_wp2
        go_ret
        exact ⟨by rw [HN.out]; rfl, B2.out⟩
    · have d6 : (60000 : Int) < (b.length : Int) := by omega
      have HN : Hid (R = false) := by show _ = _; rw [HD.out]; rw [decide_eq_false h6]; simp
      go_wp2
      go_ret
      exact ⟨by rw [HN.out]; rfl, B2.out⟩

end Go.Proofs.YtfpaichdkddglabDoor.Sr
