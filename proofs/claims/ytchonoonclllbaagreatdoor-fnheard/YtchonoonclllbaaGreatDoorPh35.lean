/- Texts in one: LhA, LhN, LhO, KpG, KpH, HfB, WdA, WdB. -/
import Derived.Test.YtchonoonclllbaaGreatDoorPh34
set_option maxHeartbeats 16000000
set_option linter.unusedVariables false
set_option linter.unusedSimpArgs false
namespace Go.Proofs.YtchonoonclllbaaGreatDoor.Lg
open Go.RowKit Mem Laws Bytes Sha Tr He
set_option maxRecDepth 1000000 in
theorem logok_impl (w : World) (v : Value) (l : List ByteArray) (h : Hd) (hG : Glob w) (hs : Sl w v (ss l)) (hl : l.length ≤ 1000000000000) (hz : ∀ s ∈ l, s.size ≤ 10000000000) :
  Calls Tryz.prog 69 #[.agg #[v, .int .i64 h.n, .string h.r]] w fun e w' => e = .returned (.bool (logOk l h)) ∧ Below w.heap.size w w' := by
 have hs0 := hs
 obtain ⟨ao, cap, rfl, hcap⟩ := hs.form
 rw [ss_len] at *
 obtain ⟨W, hW, r0, HB⟩ : ∃ W, Hid (w.alloc (.cells #[.slice ao l.length cap, .int .i64 h.n, .string h.r] 28) = W) ∧ W.heap[w.heap.size]? = some (.cells (lc (.slice ao l.length cap) h) 28 (0, 0)) ∧ Hid (Below w.heap.size w W) := ⟨_, rfl, heap_alloc_new w _, (Below.refl _ _).alloc (Nat.le_refl _) _⟩
 have c0 : W.cell? ⟨w.heap.size, 0, none⟩ = some (.slice ao l.length cap) := row_at r0 0
 have c1 : W.cell? ⟨w.heap.size, 1, none⟩ = some (.int .i64 h.n) := row_at r0 1
 have c2 : W.cell? ⟨w.heap.size, 2, none⟩ = some (.string h.r) := row_at r0 2
 have q := headOf_impl W.drew _ l (hG.later (Below.drew HB.out)) (hs0.later (Below.drew HB.out)) hl hz
 have e1 : ∀ W', _ := fun W' => eqlH W' h (headOf l)
 have e2 : ∀ W' op x y xs ys, _ := fun W' op x y xs ys => grdH W' op x y xs ys
 have HN : Hid (logOk l h = (decide (l.length ≤ 200) && eqH h (headOf l))) := rfl
 obtain ⟨M, hM⟩ : ∃ M, headOf l = M := ⟨_, rfl⟩
 rw [hM] at q HN
 simp only [hM] at e1
 obtain ⟨B, hB⟩ : ∃ B, eqH h M = B := ⟨_, rfl⟩
 rw [hB] at HN
 simp only [hB] at e1
 obtain ⟨A, hA⟩ : ∃ A, logOk l h = A := ⟨_, rfl⟩
 rw [hA] at HN ⊢
 clear hM hB hA hs hs0 r0 hz hG
 by_cases h2 : l.length ≤ 200
 ·have d1 : decide ((l.length : Int) ≤ 200) = true := by simp; omega
  have HN2 : Hid (A = B) := by show _ = _; rw [HN.out]; simp [h2]
  clear HN
  go_enter Tryz.func69, Tryz.ntmps69
  go_wp2_with fail
  rw [hW.out]
  refine wp_region_held_drew (S := fun w' => w'.cell? ⟨w.heap.size, 0, none⟩ = some (.slice ao l.length cap) ∧ w'.cell? ⟨w.heap.size, 1, none⟩ = some (.int .i64 h.n) ∧ w'.cell? ⟨w.heap.size, 2, none⟩ = some (.string h.r)) (by kernel_rfl) ⟨c0, c1, c2⟩ (fun hHeld => ?_)
  refine Ke.q 0 ?_; try simp only [Act.put, pq]
  refine Ke.q 1 ?_; try simp only [Act.put, pq]
  refine Ke.q 2 ?_; try simp only [Act.put, pq]
  refine Ke.q 3 ?_; try simp only [Act.put, pq]
  refine Ke.q 4 ?_; try simp only [Act.put, pq]
  refine Ke.q 5 ?_; try simp only [Act.put, pq]
  refine Ke.q 6 ?_; try simp only [Act.put, pq]
  refine Ke.q 7 ?_; try simp only [Act.put, pq]
  refine Ke.q 8 ?_; try simp only [Act.put, pq]
  refine Ke.z 9 rfl (fun K hK => ?_)
  go_simp
  refine (q).mono ?_
  rintro e w1 ⟨rfl, b1⟩
  refine hK.out _ _ ?_ (fun hHeld => ?_)
  ·exact ⟨keepR (W := W.drew) hHeld.1 b1, keepR (W := W.drew) hHeld.2.1 b1, keepR (W := W.drew) hHeld.2.2 b1⟩
  clear hK K
  try simp only [Act.put, pq]
  refine Ke.q 10 ?_; try simp only [Act.put, pq]
  refine Ke.q 11 ?_; try simp only [Act.put, pq]
  refine Ke.q 12 ?_; try simp only [Act.put, pq]
  refine wpAnyH_done (by kernel_rfl) ?_ _
  clear hHeld
  go_wp2
  go_ret
  exact ⟨by rw [HN2.out]; rfl, (Below.drew HB.out).trans (b1.mono HB.out.size)⟩
 ·have d1 : decide ((l.length : Int) ≤ 200) = false := by simp; omega
  have HN2 : Hid (A = false) := by show _ = _; rw [HN.out]; simp [h2]
  clear HN q
  go_enter Tryz.func69, Tryz.ntmps69
  go_wp2_with fail
  rw [hW.out]
  refine wp_region_held_drew (S := fun w' => w'.cell? ⟨w.heap.size, 0, none⟩ = some (.slice ao l.length cap) ∧ w'.cell? ⟨w.heap.size, 1, none⟩ = some (.int .i64 h.n) ∧ w'.cell? ⟨w.heap.size, 2, none⟩ = some (.string h.r)) (by kernel_rfl) ⟨c0, c1, c2⟩ (fun hHeld => ?_)
  refine Ke.q 0 ?_; try simp only [Act.put, pq]
  refine Ke.q 1 ?_; try simp only [Act.put, pq]
  refine Ke.q 2 ?_; try simp only [Act.put, pq]
  refine Ke.q 3 ?_; try simp only [Act.put, pq]
  refine Ke.q 4 ?_; try simp only [Act.put, pq]
  refine Ke.p 5 ?_; try simp only [Act.put, pq]
  refine Ke.p 6 ?_; try simp only [Act.put, pq]
  refine Ke.p 7 ?_; try simp only [Act.put, pq]
  refine Ke.p 8 ?_; try simp only [Act.put, pq]
  refine Ke.p 9 ?_; try simp only [Act.put, pq]
  refine Ke.p 10 ?_; try simp only [Act.put, pq]
  refine Ke.q 11 ?_; try simp only [Act.put, pq]
  refine Ke.q 12 ?_; try simp only [Act.put, pq]
  refine wpAnyH_done (by kernel_rfl) ?_ _
  clear hHeld
  go_wp2
  go_ret
  exact ⟨by rw [HN2.out]; rfl, Below.drew HB.out⟩
set_option maxRecDepth 1000000 in
theorem logof_impl (w : World) (v : Value) (l : List ByteArray) (hG : Glob w) (hs : Sl w v (ss l)) (hl : l.length ≤ 1000000000000) (hz : ∀ s ∈ l, s.size ≤ 10000000000) :
  Calls Tryz.prog 107 #[v] w fun e w' => e = .returned (.agg #[v, .int .i64 (headOf l).n, .string (headOf l).r]) ∧ Below w.heap.size w w' := by
 have HS : Hid (Sl w v (ss l)) := hs
 have HG : Hid (Glob w) := hG
 obtain ⟨ao, cap, rfl, hcap⟩ := hs.form
 rw [ss_len] at *
 clear hs hG
 have B0 : Hid (Below w.heap.size w w) := Below.refl _ _
 obtain ⟨W1, HW1, b1, y1, hS1, r_res1⟩ := Ke.l1 w #[.slice none 0 0, .int .i64 0, .string ⟨#[]⟩] 28
 have z1 := b1.size
 have B1 := Ke.b B0 b1
 have q : ∀ W v1, Glob W → Sl W v1 (ss l) → _ := fun W v1 h0 h1 => headOf_impl W v1 l h0 h1 hl hz
 obtain ⟨M, hM⟩ : ∃ M, headOf l = M := ⟨_, rfl⟩
 simp only [hM] at q
 rw [hM]
 clear hM hz
 go_enter Tryz.func107, Tryz.ntmps107
 go_wp2_with fail
 rw [HW1.out]
 refine (q W1 _ (HG.out.later B1.out) (HS.out.later B1.out)).mono ?_
 rintro e W2 ⟨rfl, b2⟩
 have z2 := b2.size
 have B2 := Ke.b B1 b2
 have r_res2 := Ke.r r_res1 b2
 clear r_res1
 go_wp2_with (refine wpList_store_row rfl 28 _ _ rfl (w.heap.size) (lc (.slice ao l.length cap) M) rfl rfl 28 _ r_res2.out (sizeL _ _) rfl (oneL _ rfl) ?_)
 refine bodyPost_ret (v := .agg (lc (.slice ao l.length cap) M)) (results_cell_row rfl _ _ (w.heap.size) 28 _ (0, 0) _ rfl (setRow_heap _ _ _ _ _ (0, 0) r_res2.out) Tryz.underlying28 rfl (sizeL _ _)) rfl ⟨rfl, below_setRow B2.out (by omega) _⟩
set_option maxRecDepth 1000000 in
theorem ownlog_impl (w : World) (v : Value) (l : List ByteArray) (h : Hd) (hs : Sl w v (ss l)) (hl : l.length ≤ 1000000000) (hz : ∀ s ∈ l, s.size ≤ 1000000000000) (hh : h.r.size ≤ 1000000000000) :
  Calls Tryz.prog 102 #[.agg #[v, .int .i64 h.n, .string h.r]] w fun e w' => ∃ v', e = .returned (.agg #[v', .int .i64 h.n, .string h.r]) ∧ Own w' w.heap.size w'.heap.size 9 v' (ss l) ∧ Below w.heap.size w w' := by
 have HS : Hid (Sl w v (ss l)) := hs
 obtain ⟨ao, cap, rfl, hcap⟩ := hs.form
 rw [ss_len] at *
 clear hs
 have B0 : Hid (Below w.heap.size w w) := Below.refl _ _
 obtain ⟨W1, HW1, b1, y1, hS1, r_a1, r_res1⟩ := Ke.l2 w #[.slice ao l.length cap, .int .i64 h.n, .string h.r] 28 #[.slice none 0 0, .int .i64 0, .string ⟨#[]⟩] 28
 have z1 := b1.size
 have B1 := Ke.b B0 b1
 have c_a1 := Ke.c r_a1
 have q1 : ∀ W v1, Sl W v1 (ss l) → _ := fun W v1 h1 => Ed.texts_impl W v1 l h1 hl hz
 have q2 : ∀ W, _ := fun W => own_impl W h hh
 clear hz
 go_enter Tryz.func102, Tryz.ntmps102
 go_wp2_with fail
 rw [HW1.out]
 refine wp_region_held_drew (S := fun w' => w'.cell? ⟨w.heap.size, 0, none⟩ = some (.slice ao l.length cap) ∧ w'.cell? ⟨w.heap.size, 1, none⟩ = some (.int .i64 h.n) ∧ w'.cell? ⟨w.heap.size, 2, none⟩ = some (.string h.r)) (by kernel_rfl) ⟨(c_a1 0), (c_a1 1), (c_a1 2)⟩ (fun hHeld => ?_)
 refine Ke.q 0 ?_; try simp only [Act.put, pq]
 refine Ke.q 1 ?_; try simp only [Act.put, pq]
 refine Ke.q 3 ?_; try simp only [Act.put, pq]
 refine Ke.q 4 ?_; try simp only [Act.put, pq]
 refine Ke.z 2 rfl (fun K hK => ?_)
 go_simp
 refine (q1 W1.drew _ (Sl.later (w := W1) (HS.out.later B1.out) (Below.drew (Below.refl _ _)))).mono ?_
 rintro e W2 ⟨v_s, rfl, o_s2, b2⟩
 have b2 : Below W1.heap.size W1 W2 := (Below.drew (Below.refl _ _)).trans b2
 refine hK.out _ _ ⟨(keepR (W := W1) hHeld.1 b2), (keepR (W := W1) hHeld.2.1 b2), (keepR (W := W1) hHeld.2.2 b2)⟩ (fun hHeld => ?_)
 clear hK K
 try simp only [Act.put, pq]
 have o_s2 : Own W2 W1.heap.size W2.heap.size 9 _ _ := o_s2
 obtain ⟨ao_s, L_s, cap_s, rfl, hL_s, hM_s⟩ := o_s2.form
 have o_s2 : Hid (Own W2 W1.heap.size W2.heap.size 9 (.slice ao_s L_s cap_s) (ss l)) := o_s2
 clear hL_s hM_s
 have z2 := b2.size
 have B2 := Ke.b B1 b2
 have r_res2 := Ke.r r_res1 b2
 clear r_a1 c_a1 r_res1
 refine Ke.z 5 rfl (fun K hK => ?_)
 go_simp
 refine (q2 W2).mono ?_
 rintro e W3 ⟨rfl, b3⟩
 refine hK.out _ _ ⟨(keepR (W := W2) hHeld.1 b3), (keepR (W := W2) hHeld.2.1 b3), (keepR (W := W2) hHeld.2.2 b3)⟩ (fun hHeld => ?_)
 clear hK K
 try simp only [Act.put, pq]
 have z3 := b3.size
 have B3 := Ke.b B2 b3
 have r_res3 := Ke.r r_res2 b3
 have o_s3 := Ke.o o_s2 b3
 clear r_res2 o_s2
 refine Ke.q 6 ?_; try simp only [Act.put, pq]
 refine Ke.z 7 rfl (fun K hK => ?_)
 rw [if_pos (by rfl)]
 refine wp_store_row 28 _ _ rfl (w.heap.size + 1) (lc (.slice ao_s L_s cap_s) h) rfl rfl 28 _ r_res3.out (sizeL _ _) rfl (oneL _ rfl) ?_
 refine hK.out _ _ ⟨(cell_row (by show w.heap.size ≠ w.heap.size + 1; omega) hHeld.1), (cell_row (by show w.heap.size ≠ w.heap.size + 1; omega) hHeld.2.1), (cell_row (by show w.heap.size ≠ w.heap.size + 1; omega) hHeld.2.2)⟩ (fun hHeld => ?_)
 clear hK K
 refine wpAnyH_done (by kernel_rfl) ?_ _
 clear hHeld
 go_wp2
 refine bodyPost_ret (v := .agg (lc (.slice ao_s L_s cap_s) h)) (results_cell_row rfl _ _ (w.heap.size + 1) 28 _ (0, 0) _ rfl (setRow_heap _ _ _ _ _ (0, 0) r_res3.out) Tryz.underlying28 rfl (sizeL _ _)) rfl ⟨.slice ao_s L_s cap_s, rfl, (Own.setRow o_s3.out _ (by omega)).mono (by omega) (by rw [size_setRow]; omega), below_setRow B3.out (by omega) _⟩
end Go.Proofs.YtchonoonclllbaaGreatDoor.Lg
namespace Go.Proofs.YtchonoonclllbaaGreatDoor.Sr
open Go.RowKit Mem Laws Bytes Sha Tr He Lg
set_option maxRecDepth 1000000 in
theorem ownstore_impl (w : World) (v vb : Value) (st : Sto) (hs : Sl w v (ss st.l)) (hb : Sl w vb (bs st.b)) (hl : st.l.length ≤ 1000000000) (hbl : st.b.length ≤ 1000000000) (hz : ∀ s ∈ st.l, s.size ≤ 1000000000000) (hh : st.h.r.size ≤ 1000000000000) :
  Calls Tryz.prog 58 #[.agg #[v, .int .i64 st.h.n, .string st.h.r, vb, .int .i64 st.s]] w fun e w' => ∃ v' vb', e = .returned (.agg #[v', .int .i64 st.h.n, .string st.h.r, vb', .int .i64 st.s]) ∧ Own w' w.heap.size w'.heap.size 9 v' (ss st.l) ∧ Own w' w.heap.size w'.heap.size 5 vb' (bs st.b) ∧ Below w.heap.size w w' := by
 obtain ⟨l, h, b, s⟩ := st
 simp only at *
 have HS : Hid (Sl w v (ss l)) := hs
 have HSB : Hid (Sl w vb (bs b)) := hb
 obtain ⟨ao0, cap0, rfl, hc0⟩ := hs.form
 obtain ⟨ao1, cap1, rfl, hc1⟩ := hb.form
 simp only [ss_len, bs_len] at *
 clear hs hb
 have B0 : Hid (Below w.heap.size w w) := Below.refl _ _
 obtain ⟨W1, HW1, b1, y1, hS1, r_a1, r_res1⟩ := Ke.l2 w #[.slice ao0 l.length cap0, .int .i64 h.n, .string h.r, .slice ao1 b.length cap1, .int .i64 s] 30 #[.slice none 0 0, .int .i64 0, .string ⟨#[]⟩, .slice none 0 0, .int .i64 0] 30
 have z1 := b1.size
 have B1 := Ke.b B0 b1
 have c_a1 := Ke.c r_a1
 have q1 : ∀ W v1, Sl W v1 (ss l) → _ := fun W v1 h1 => ownlog_impl W v1 l h h1 hl hz hh
 have q2 : ∀ W v1, Sl W v1 (bs b) → _ := fun W v1 h1 => Puts.own_any W v1 b h1 (by omega)
 clear hz
 go_enter Tryz.func58, Tryz.ntmps58
 go_wp2_with fail
 rw [HW1.out]
 refine wp_region_held_drew (S := fun w' => w'.cell? ⟨w.heap.size, 0, none⟩ = some (.slice ao0 l.length cap0) ∧ w'.cell? ⟨w.heap.size, 1, none⟩ = some (.int .i64 h.n) ∧ w'.cell? ⟨w.heap.size, 2, none⟩ = some (.string h.r) ∧ w'.cell? ⟨w.heap.size, 3, none⟩ = some (.slice ao1 b.length cap1) ∧ w'.cell? ⟨w.heap.size, 4, none⟩ = some (.int .i64 s)) (by kernel_rfl) ⟨(c_a1 0), (c_a1 1), (c_a1 2), (c_a1 3), (c_a1 4)⟩ (fun hHeld => ?_)
 refine Ke.q 0 ?_; try simp only [Act.put, pq]
 refine Ke.q 1 ?_; try simp only [Act.put, pq]
 refine Ke.q 3 ?_; try simp only [Act.put, pq]
 refine Ke.q 4 ?_; try simp only [Act.put, pq]
 refine Ke.q 6 ?_; try simp only [Act.put, pq]
 refine Ke.q 7 ?_; try simp only [Act.put, pq]
 refine Ke.z 2 rfl (fun K hK => ?_)
 go_simp
 refine (q1 W1.drew _ (Sl.later (w := W1) (HS.out.later B1.out) (Below.drew (Below.refl _ _)))).mono ?_
 rintro e W2 ⟨v_s, rfl, o_s2, b2⟩
 have b2 : Below W1.heap.size W1 W2 := (Below.drew (Below.refl _ _)).trans b2
 refine hK.out _ _ ⟨(keepR (W := W1) hHeld.1 b2), (keepR (W := W1) hHeld.2.1 b2), (keepR (W := W1) hHeld.2.2.1 b2), (keepR (W := W1) hHeld.2.2.2.1 b2), (keepR (W := W1) hHeld.2.2.2.2 b2)⟩ (fun hHeld => ?_)
 clear hK K
 try simp only [Act.put, pq]
 have o_s2 : Own W2 W1.heap.size W2.heap.size 9 _ _ := o_s2
 obtain ⟨ao_s, L_s, cap_s, rfl, hL_s, hM_s⟩ := o_s2.form
 have o_s2 : Hid (Own W2 W1.heap.size W2.heap.size 9 (.slice ao_s L_s cap_s) (ss l)) := o_s2
 clear hL_s hM_s
 have z2 := b2.size
 have B2 := Ke.b B1 b2
 have r_res2 := Ke.r r_res1 b2
 clear r_a1 c_a1 r_res1
 refine Ke.z 5 rfl (fun K hK => ?_)
 go_simp
 refine (q2 W2 _ (HSB.out.later B2.out)).mono ?_
 rintro e W3 ⟨v_p, rfl, o_p3, b3⟩
 refine hK.out _ _ ⟨(keepR (W := W2) hHeld.1 b3), (keepR (W := W2) hHeld.2.1 b3), (keepR (W := W2) hHeld.2.2.1 b3), (keepR (W := W2) hHeld.2.2.2.1 b3), (keepR (W := W2) hHeld.2.2.2.2 b3)⟩ (fun hHeld => ?_)
 clear hK K
 try simp only [Act.put, pq]
 obtain ⟨ao_p, L_p, cap_p, rfl, hL_p, hM_p⟩ := o_p3.form
 have o_p3 : Hid (Own W3 W2.heap.size W3.heap.size 5 (.slice ao_p L_p cap_p) (bs b)) := o_p3
 clear hL_p hM_p
 have z3 := b3.size
 have B3 := Ke.b B2 b3
 have r_res3 := Ke.r r_res2 b3
 have o_s3 := Ke.o o_s2 b3
 clear r_res2 o_s2
 refine Ke.q 8 ?_; try simp only [Act.put, pq]
 refine Ke.z 9 rfl (fun K hK => ?_)
 rw [if_pos (by rfl)]
 refine wp_store_row 30 _ _ rfl (w.heap.size + 1) (sc (.slice ao_s L_s cap_s) h (.slice ao_p L_p cap_p) s) rfl rfl 30 _ r_res3.out (sizeS _ _ _ _) rfl (oneS _ _ rfl rfl) ?_
 refine hK.out _ _ ⟨(cell_row (by show w.heap.size ≠ w.heap.size + 1; omega) hHeld.1), (cell_row (by show w.heap.size ≠ w.heap.size + 1; omega) hHeld.2.1), (cell_row (by show w.heap.size ≠ w.heap.size + 1; omega) hHeld.2.2.1), (cell_row (by show w.heap.size ≠ w.heap.size + 1; omega) hHeld.2.2.2.1), (cell_row (by show w.heap.size ≠ w.heap.size + 1; omega) hHeld.2.2.2.2)⟩ (fun hHeld => ?_)
 clear hK K
 refine wpAnyH_done (by kernel_rfl) ?_ _
 clear hHeld
 go_wp2
 refine bodyPost_ret (v := .agg (sc (.slice ao_s L_s cap_s) h (.slice ao_p L_p cap_p) s)) (results_cell_row rfl _ _ (w.heap.size + 1) 30 _ (0, 0) _ rfl (setRow_heap _ _ _ _ _ (0, 0) r_res3.out) Tryz.underlying30 rfl (sizeS _ _ _ _)) rfl ⟨.slice ao_s L_s cap_s, .slice ao_p L_p cap_p, rfl, (Own.setRow o_s3.out _ (by omega)).mono (by omega) (by rw [size_setRow]; omega), (Own.setRow o_p3.out _ (by omega)).mono (by omega) (by rw [size_setRow]; omega), below_setRow B3.out (by omega) _⟩
set_option maxRecDepth 1000000 in
theorem storeok_impl (w : World) (v vb : Value) (st : Sto) (hG : Glob w) (hN : NoC w) (hs : Sl w v (ss st.l)) (hb : Sl w vb (bs st.b)) (hby : Byt st.b) (hl : st.l.length ≤ 1000000000) (hbl : st.b.length ≤ 1000000000) (hz : ∀ s ∈ st.l, s.size ≤ 10000000000) :
  Calls Tryz.prog 26 #[.agg #[v, .int .i64 st.h.n, .string st.h.r, vb, .int .i64 st.s]] w fun e w' => e = .returned (.bool (storeOk st)) ∧ Below w.heap.size w w' := by
 obtain ⟨R, hR⟩ : ∃ R, storeOk st = R := ⟨_, rfl⟩
 have HR : Hid (storeOk st = R) := hR
 have HG : Hid (Glob w) := hG
 have HNC : Hid (NoC w) := hN
 rw [hR]
 obtain ⟨l, h, b, s⟩ := st
 simp only at *
 have HS : Hid (Sl w v (ss l)) := hs
 have HSB : Hid (Sl w vb (bs b)) := hb
 have HBY : Hid (Byt b) := hby
 obtain ⟨ao0, cap0, rfl, hc0⟩ := hs.form
 obtain ⟨ao1, cap1, rfl, hc1⟩ := hb.form
 simp only [ss_len, bs_len] at *
 clear hs hb hby hR hG hN
 have B0 : Hid (Below w.heap.size w w) := Below.refl _ _
 obtain ⟨W1, HW1, b1, y1, hS1, r_a1⟩ := Ke.l1 w #[.slice ao0 l.length cap0, .int .i64 h.n, .string h.r, .slice ao1 b.length cap1, .int .i64 s] 30
 have z1 := b1.size
 have B1 := Ke.b B0 b1
 have q1 : ∀ W v1, Glob W → Sl W v1 (ss l) → _ := fun W v1 h0 h1 => logok_impl W v1 l h h0 h1 (by omega) hz
 have HLG : Hid (logOk l h = true → l.length ≤ 200) := fun q => (logOk_yes q).1
 obtain ⟨A, hA⟩ : ∃ A, logOk l h = A := ⟨_, rfl⟩
 simp only [hA] at q1
 have HA : Hid (logOk l h = A) := hA
 clear hA hz
 by_cases h6 : (60000 : Int) < (b.length : Int)
 ·have d6 : decide ((60000 : Int) < (b.length : Int)) = true := decide_eq_true h6
  have HO : Hid (R = false) := by
   show _ = _
   rw [← HR.out]
   exact storeOk_no _ (fun q => by have h1 := q.2.1; have h2 := q.2.2.1; have h3 := q.2.2.2; simp only at h1 h2 h3; omega)
  go_enter Tryz.func26, Tryz.ntmps26
  go_wp2
  go_ret
  exact ⟨by rw [HO.out]; rfl, by rw [HW1.out]; exact B1.out⟩
 ·have d6 : decide ((60000 : Int) < (b.length : Int)) = false := decide_eq_false h6
  by_cases h7 : s < 0
  ·have d7 : decide (s < 0) = true := decide_eq_true h7
   have HO : Hid (R = false) := by
    show _ = _
    rw [← HR.out]
    exact storeOk_no _ (fun q => by have h1 := q.2.1; have h2 := q.2.2.1; have h3 := q.2.2.2; simp only at h1 h2 h3; omega)
   go_enter Tryz.func26, Tryz.ntmps26
   go_wp2
   go_ret
   exact ⟨by rw [HO.out]; rfl, by rw [HW1.out]; exact B1.out⟩
  ·have d7 : decide (s < 0) = false := decide_eq_false h7
   by_cases h8 : (b.length : Int) < s
   ·have d8 : decide ((b.length : Int) < s) = true := decide_eq_true h8
    have HO : Hid (R = false) := by
     show _ = _
     rw [← HR.out]
     exact storeOk_no _ (fun q => by have h1 := q.2.1; have h2 := q.2.2.1; have h3 := q.2.2.2; simp only at h1 h2 h3; omega)
    go_enter Tryz.func26, Tryz.ntmps26
    go_wp2
    go_ret
    exact ⟨by rw [HO.out]; rfl, by rw [HW1.out]; exact B1.out⟩
   ·have d8 : decide ((b.length : Int) < s) = false := decide_eq_false h8
    go_enter Tryz.func26, Tryz.ntmps26
    go_wp2_with fail
    rw [HW1.out]
    refine (q1 W1 _ (HG.out.later B1.out) (HS.out.later B1.out)).mono ?_
    rintro e W2 ⟨rfl, b2⟩
    have z2 := b2.size
    have B2 := Ke.b B1 b2
    have r_a2 := Ke.r r_a1 b2
    have c_a2 := Ke.c r_a2
    clear r_a1
    clear q1
    cases A
    ·have HO : Hid (R = false) := by
      show _ = _
      rw [← HR.out]
      exact storeOk_no _ (fun q => by have h1 := q.1; simp only at h1; rw [HA.out] at h1; cases h1)
     go_wp2
     go_ret
     exact ⟨by rw [HO.out]; rfl, B2.out⟩
    ·have h2 := HLG.out HA.out
     have HO : Hid (fin12 b l b.length 0 [] (headOf []) = R) := by
      show _ = _
      rw [← HR.out]
      exact (storeOk_fin ⟨l, h, b, s⟩ HA.out (by simp only; omega) (by simp only; omega)).symm
     have q3 := make_impl W2 _ _ b l (HG.out.later B2.out) (HNC.out.later B2.out) (HSB.out.later B2.out) HBY.out (by omega) (HS.out.later B2.out) h2
     rw [HO.out] at q3
     go_wp2_with fail
     refine (q3).mono ?_
     rintro e W3 ⟨rfl, b3⟩
     have z3 := b3.size
     have B3 := Ke.b B2 b3
     clear r_a2 c_a2
     go_wp2
     go_ret
     exact ⟨by cases R <;> rfl, B3.out⟩
end Go.Proofs.YtchonoonclllbaaGreatDoor.Sr
namespace Go.Proofs.YtchonoonclllbaaGreatDoor.He
open Go.RowKit Mem Laws Bytes Sha Tr
theorem pk_one {a b : Hd} (h : eqH a b = true) : pk a b = 1 := by unfold pk; rw [if_pos h]
theorem pk_not {a b : Hd} (h : ¬ eqH a b = true) : (pk a b == 1) = false := by
 unfold pk
 rw [if_neg h, beq_eq_false_iff_ne]
 split <;> decide
theorem keepA {W : World} {p : Addr} {x : Value} (h : W.cell? p = some x) (o : Obj) : (W.alloc o).cell? p = some x := keepH h ((Below.refl _ _).alloc (Nat.le_refl _) o)
set_option maxRecDepth 1000000 in
theorem signed_impl (w : World) (v : Value) (t : List Hd) (h : Hd) (hs : Sh w v t) (hx : t.length ≤ 1000000000000) :
  Calls Tryz.prog 97 #[v, .agg #[.int .i64 h.n, .string h.r]] w fun e w' => e = .returned (.bool (signed t h)) ∧ Below w.heap.size w w' := by
 obtain ⟨W, hW, r0, bW, yW⟩ : ∃ W, Hid (w.alloc (.cells #[.int .i64 h.n, .string h.r] 26) = W) ∧ W.heap[w.heap.size]? = some (.cells (hc h) 26 (0, 0)) ∧ Below w.heap.size w W ∧ w.heap.size + 1 ≤ W.heap.size := ⟨_, rfl, heap_alloc_new w _, (Below.refl _ _).alloc (Nat.le_refl _) _, by simp⟩
 have HS : Hid (Sh W v t) := hs.later bW
 have HR : Hid (W.heap[w.heap.size]? = some (.cells (hc h) 26 (0, 0))) := r0
 have HBW : Hid (Below w.heap.size w W) := bW
 obtain ⟨ao, cap, rfl, hcap⟩ := Sh.form hs
 obtain ⟨S, hS⟩ : ∃ S, signed t h = S := ⟨_, rfl⟩
 rw [hS]
 have HSS : Hid (signed t h = S) := hS
 clear hs hS r0 bW
 go_enter Tryz.func97, Tryz.ntmps97
 go_wp2
 rw [hW.out]
 go_loopw [9] (fun i wr => ∃ k : Nat, k ≤ t.length ∧ i = .int .i64 (k : Int) ∧ Hid (signed (t.take k) h = false) ∧ Hid (Below W.heap.size W wr)) (fun i _ => t.length - (intOf i).toNat)
 case atStart => exact ⟨0, Nat.zero_le _, rfl, rfl, Below.refl _ _⟩
 case round =>
  obtain ⟨k, hk, rfl, HK, hB⟩ := hrel
  by_cases hlt : k < t.length
  ·obtain ⟨x, hx0⟩ : ∃ x, t[k]? = some x := ⟨t[k], by simp [hlt]⟩
   obtain ⟨b, off, cap', he, _, c0, c1⟩ := Sh.at (HS.out.later hB.out) hx0
   simp only [Value.slice.injEq] at he
   obtain ⟨rfl, _, rfl⟩ := he
   have p0 : wr.cell? ⟨w.heap.size, 0, none⟩ = some (.int .i64 h.n) := row_at (rowKeep HR.out hB.out) 0
   have p1 : wr.cell? ⟨w.heap.size, 1, none⟩ = some (.string h.r) := row_at (rowKeep HR.out hB.out) 1
   have a0 := keepA p0 (.cells #[.int .i64 x.n, .string x.r] 26)
   have a1 := keepA p1 (.cells #[.int .i64 x.n, .string x.r] 26)
   have q : ∀ X, _ := fun X => pair_impl X x h
   have HA : Hid (Below W.heap.size W (wr.alloc (.cells #[.int .i64 x.n, .string x.r] 26))) := hB.out.alloc hB.out.size _
   by_cases hxh : eqH x h = true
   ·have HF : Hid (S = true) := by show _ = _; rw [← HSS.out]; exact signed_yes hx0 hxh
    simp only [pk_one hxh] at q
    clear hx0 HK hxh
    go_wp2_with fail
    refine (q _).mono ?_
    rintro e w4 ⟨rfl, b4⟩
    clear a0 a1 p0 p1 c0 c1
    go_wp2
    go_ret
    exact ⟨by rw [HF.out]; rfl, HBW.out.trans ((HA.out.trans (b4.mono HA.out.size)).mono HBW.out.size)⟩
   ·have hxf : eqH x h = false := by simpa using hxh
    have HN : Hid (signed (t.take (k + 1)) h = false) := by show _ = _; rw [signed_snoc hx0, HK.out, hxf]; rfl
    have pn := pk_not hxh
    obtain ⟨P, hP⟩ : ∃ P, pk x h = P := ⟨_, rfl⟩
    rw [hP] at pn
    simp only [hP] at q
    clear hx0 HK hxh hxf hP
    go_wp2_with fail
    refine (q _).mono ?_
    rintro e w4 ⟨rfl, b4⟩
    clear a0 a1 p0 p1 c0 c1
    go_wp2
    go_roundw
    case rel => exact ⟨k + 1, by omega, by go_num, HN, HA.out.trans (b4.mono HA.out.size)⟩
    case measure => simp [intOf]; omega
  ·have HF : Hid (S = false) := by
    show _ = _
    have h1 := HK.out
    rw [List.take_of_length_le (by omega)] at h1
    rw [← HSS.out, h1]
   clear HK
   go_wp2
   go_ret
   exact ⟨by rw [HF.out]; rfl, HBW.out.trans (hB.out.mono HBW.out.size)⟩
end Go.Proofs.YtchonoonclllbaaGreatDoor.He
namespace Go.Proofs.YtchonoonclllbaaGreatDoor.Wd
open Mg
open Go.RowKit Mem Laws Bytes Sha Tr He
theorem zero_h : (Tryz.prog.info? 123).map (·.zero) = some (some (.agg #[.int .i64 0, .string ⟨#[]⟩])) := by kernel_rfl
theorem zero_a : (Tryz.prog.info? 125).map (·.zero) = some (some (.agg #[.int .i64 0, .string ⟨#[]⟩, .int .i64 0])) := by kernel_rfl
theorem zero_t : (Tryz.prog.info? 127).map (·.zero) = some (some (.agg #[.int .i64 0, .string ⟨#[]⟩, .int .i64 0, .slice none 0 0])) := by kernel_rfl
theorem ta_hh (w : World) (v : Value) : (Instr.typeAssert (.iface 123 v) 86 123 true).run Tryz.prog w = .ok (.tuple #[v, .bool true]) w := by
 simp [Instr.typeAssert, run_underlying Tryz.underlying123, go_sem]
theorem ta_ah (w : World) (v : Value) : (Instr.typeAssert (.iface 125 v) 86 123 true).run Tryz.prog w = .ok (.tuple #[.agg #[.int .i64 0, .string ⟨#[]⟩], .bool false]) w := by
 obtain ⟨i, hi, hz⟩ := Option.map_eq_some_iff.1 zero_h
 simp [Instr.typeAssert, run_underlying Tryz.underlying123, zeroValue, typeInfo, hi, hz, go_sem]
theorem ta_th (w : World) (v : Value) : (Instr.typeAssert (.iface 127 v) 86 123 true).run Tryz.prog w = .ok (.tuple #[.agg #[.int .i64 0, .string ⟨#[]⟩], .bool false]) w := by
 obtain ⟨i, hi, hz⟩ := Option.map_eq_some_iff.1 zero_h
 simp [Instr.typeAssert, run_underlying Tryz.underlying123, zeroValue, typeInfo, hi, hz, go_sem]
theorem ta_aa (w : World) (v : Value) : (Instr.typeAssert (.iface 125 v) 86 125 true).run Tryz.prog w = .ok (.tuple #[v, .bool true]) w := by
 simp [Instr.typeAssert, run_underlying Tryz.underlying125, go_sem]
theorem ta_ha (w : World) (v : Value) : (Instr.typeAssert (.iface 123 v) 86 125 true).run Tryz.prog w = .ok (.tuple #[.agg #[.int .i64 0, .string ⟨#[]⟩, .int .i64 0], .bool false]) w := by
 obtain ⟨i, hi, hz⟩ := Option.map_eq_some_iff.1 zero_a
 simp [Instr.typeAssert, run_underlying Tryz.underlying125, zeroValue, typeInfo, hi, hz, go_sem]
theorem ta_ta (w : World) (v : Value) : (Instr.typeAssert (.iface 127 v) 86 125 true).run Tryz.prog w = .ok (.tuple #[.agg #[.int .i64 0, .string ⟨#[]⟩, .int .i64 0], .bool false]) w := by
 obtain ⟨i, hi, hz⟩ := Option.map_eq_some_iff.1 zero_a
 simp [Instr.typeAssert, run_underlying Tryz.underlying125, zeroValue, typeInfo, hi, hz, go_sem]
theorem ta_tt (w : World) (v : Value) : (Instr.typeAssert (.iface 127 v) 86 127 true).run Tryz.prog w = .ok (.tuple #[v, .bool true]) w := by
 simp [Instr.typeAssert, run_underlying Tryz.underlying127, go_sem]
theorem ta_ht (w : World) (v : Value) : (Instr.typeAssert (.iface 123 v) 86 127 true).run Tryz.prog w = .ok (.tuple #[.agg #[.int .i64 0, .string ⟨#[]⟩, .int .i64 0, .slice none 0 0], .bool false]) w := by
 obtain ⟨i, hi, hz⟩ := Option.map_eq_some_iff.1 zero_t
 simp [Instr.typeAssert, run_underlying Tryz.underlying127, zeroValue, typeInfo, hi, hz, go_sem]
theorem ta_at (w : World) (v : Value) : (Instr.typeAssert (.iface 125 v) 86 127 true).run Tryz.prog w = .ok (.tuple #[.agg #[.int .i64 0, .string ⟨#[]⟩, .int .i64 0, .slice none 0 0], .bool false]) w := by
 obtain ⟨i, hi, hz⟩ := Option.map_eq_some_iff.1 zero_t
 simp [Instr.typeAssert, run_underlying Tryz.underlying127, zeroValue, typeInfo, hi, hz, go_sem]
set_option maxRecDepth 1000000 in
theorem word1 (w : World) (f t : Int) (h : Hd) (ao0 : Option Addr) (cap0 : Nat) :
  Calls Tryz.prog 55 #[.agg #[.int .i64 1, .int .i64 f, .int .i64 t, .int .i64 h.n, .string h.r, .int .i64 0, .slice ao0 0 cap0]] w fun e w' => e = .returned (.iface 123 (.agg #[.int .i64 h.n, .string h.r])) ∧ Below w.heap.size w w' := by
 have B0 : Hid (Below w.heap.size w w) := Below.refl _ _
 obtain ⟨W1, HW1, b1, y1, hS1, r_a1⟩ := Ke.l1 w #[.int .i64 1, .int .i64 f, .int .i64 t, .int .i64 h.n, .string h.r, .int .i64 0, .slice ao0 0 cap0] 35
 have z1 := b1.size
 have B1 := Ke.b B0 b1
 go_enter Tryz.func55, Tryz.ntmps55
 go_wp2
 go_ret
 exact ⟨rfl, by rw [HW1.out]; exact B1.out⟩
set_option maxRecDepth 1000000 in
theorem word2 (w : World) (f t n : Int) (h : Hd) (ao0 : Option Addr) (cap0 : Nat) :
  Calls Tryz.prog 55 #[.agg #[.int .i64 2, .int .i64 f, .int .i64 t, .int .i64 h.n, .string h.r, .int .i64 n, .slice ao0 0 cap0]] w fun e w' => e = .returned (.iface 125 (.agg #[.int .i64 h.n, .string h.r, .int .i64 n])) ∧ Below w.heap.size w w' := by
 have B0 : Hid (Below w.heap.size w w) := Below.refl _ _
 obtain ⟨W1, HW1, b1, y1, hS1, r_a1⟩ := Ke.l1 w #[.int .i64 2, .int .i64 f, .int .i64 t, .int .i64 h.n, .string h.r, .int .i64 n, .slice ao0 0 cap0] 35
 have z1 := b1.size
 have B1 := Ke.b B0 b1
 go_enter Tryz.func55, Tryz.ntmps55
 go_wp2
 go_ret
 exact ⟨rfl, by rw [HW1.out]; exact B1.out⟩
set_option maxRecDepth 1000000 in
theorem word3 (w : World) (f t n : Int) (h : Hd) (ao0 : Option Addr) (L cap0 : Nat) :
  Calls Tryz.prog 55 #[.agg #[.int .i64 3, .int .i64 f, .int .i64 t, .int .i64 h.n, .string h.r, .int .i64 n, .slice ao0 L cap0]] w fun e w' => e = .returned (.iface 127 (.agg #[.int .i64 h.n, .string h.r, .int .i64 n, .slice ao0 L cap0])) ∧ Below w.heap.size w w' := by
 have B0 : Hid (Below w.heap.size w w) := Below.refl _ _
 obtain ⟨W1, HW1, b1, y1, hS1, r_a1⟩ := Ke.l1 w #[.int .i64 3, .int .i64 f, .int .i64 t, .int .i64 h.n, .string h.r, .int .i64 n, .slice ao0 L cap0] 35
 have z1 := b1.size
 have B1 := Ke.b B0 b1
 go_enter Tryz.func55, Tryz.ntmps55
 go_wp2
 go_ret
 exact ⟨rfl, by rw [HW1.out]; exact B1.out⟩
set_option maxRecDepth 1000000 in
theorem word0 (w : World) (k f t n : Int) (h : Hd) (ao0 : Option Addr) (L cap0 : Nat) (k1 : ¬ (k = 1 ∧ n = 0 ∧ L = 0)) (k2 : ¬ (k = 2 ∧ L = 0)) (k3 : ¬ k = 3) :
  Calls Tryz.prog 55 #[.agg #[.int .i64 k, .int .i64 f, .int .i64 t, .int .i64 h.n, .string h.r, .int .i64 n, .slice ao0 L cap0]] w fun e w' => e = .returned (.nilIface) ∧ Below w.heap.size w w' := by
 have B0 : Hid (Below w.heap.size w w) := Below.refl _ _
 have b3 : (k == 3) = false := by rw [beq_eq_false_iff_ne]; exact k3
 by_cases e1 : k = 1
 ·subst e1
  by_cases e0 : n = 0
  ·subst e0
   have lz : ¬ L = 0 := fun q => k1 ⟨rfl, rfl, q⟩
   have l1 : ¬ (L : Int) = 0 := by omega
   have l2 : ((L : Int) == 0) = false := by rw [beq_eq_false_iff_ne]; exact l1
   obtain ⟨W1, HW1, b1, y1, hS1, r_a1⟩ := Ke.l1 w #[.int .i64 1, .int .i64 f, .int .i64 t, .int .i64 h.n, .string h.r, .int .i64 0, .slice ao0 L cap0] 35
   have z1 := b1.size
   have B1 := Ke.b B0 b1
   go_enter Tryz.func55, Tryz.ntmps55
   go_wp2
   go_ret
   exact ⟨rfl, by rw [HW1.out]; exact B1.out⟩
  ·have nb : (n == 0) = false := by rw [beq_eq_false_iff_ne]; exact e0
   obtain ⟨W1, HW1, b1, y1, hS1, r_a1⟩ := Ke.l1 w #[.int .i64 1, .int .i64 f, .int .i64 t, .int .i64 h.n, .string h.r, .int .i64 n, .slice ao0 L cap0] 35
   have z1 := b1.size
   have B1 := Ke.b B0 b1
   go_enter Tryz.func55, Tryz.ntmps55
   go_wp2
   go_ret
   exact ⟨rfl, by rw [HW1.out]; exact B1.out⟩
 ·have b1 : (k == 1) = false := by rw [beq_eq_false_iff_ne]; exact e1
  by_cases e2 : k = 2
  ·subst e2
   have lz : ¬ L = 0 := fun q => k2 ⟨rfl, q⟩
   have l1 : ¬ (L : Int) = 0 := by omega
   have l2 : ((L : Int) == 0) = false := by rw [beq_eq_false_iff_ne]; exact l1
   obtain ⟨W1, HW1, b1, y1, hS1, r_a1⟩ := Ke.l1 w #[.int .i64 2, .int .i64 f, .int .i64 t, .int .i64 h.n, .string h.r, .int .i64 n, .slice ao0 L cap0] 35
   have z1 := b1.size
   have B1 := Ke.b B0 b1
   go_enter Tryz.func55, Tryz.ntmps55
   go_wp2
   go_ret
   exact ⟨rfl, by rw [HW1.out]; exact B1.out⟩
  ·have b2 : (k == 2) = false := by rw [beq_eq_false_iff_ne]; exact e2
   obtain ⟨W1, HW1, b1, y1, hS1, r_a1⟩ := Ke.l1 w #[.int .i64 k, .int .i64 f, .int .i64 t, .int .i64 h.n, .string h.r, .int .i64 n, .slice ao0 L cap0] 35
   have z1 := b1.size
   have B1 := Ke.b B0 b1
   go_enter Tryz.func55, Tryz.ntmps55
   go_wp2
   go_ret
   exact ⟨rfl, by rw [HW1.out]; exact B1.out⟩
set_option maxRecDepth 1000000 in
theorem mirror_impl (w : World) (n : Int) : Calls Tryz.prog 52 #[.int .i64 n] w fun e w' => e = .returned (.bool (decide (0 ≤ n ∧ n ≤ 20))) ∧ w = w' := by
 by_cases h0 : 0 ≤ n
 ·by_cases h1 : n ≤ 20
  ·rw [decide_eq_true (show 0 ≤ n ∧ n ≤ 20 from ⟨h0, h1⟩)]
   have d0 : decide (0 ≤ n) = true := decide_eq_true h0
   have d1 : decide (n ≤ 20) = true := decide_eq_true h1
   go_enter Tryz.func52, Tryz.ntmps52
   go_wp2
   go_ret
   exact ⟨rfl, rfl⟩
  ·rw [decide_eq_false (show ¬ (0 ≤ n ∧ n ≤ 20) from fun q => h1 q.2)]
   have d0 : decide (0 ≤ n) = true := decide_eq_true h0
   have d1 : decide (n ≤ 20) = false := decide_eq_false h1
   go_enter Tryz.func52, Tryz.ntmps52
   go_wp2
   go_ret
   exact ⟨rfl, rfl⟩
 ·rw [decide_eq_false (show ¬ (0 ≤ n ∧ n ≤ 20) from fun q => h0 q.1)]
  have d0 : decide (0 ≤ n) = false := decide_eq_false h0
  go_enter Tryz.func52, Tryz.ntmps52
  go_wp2
  go_ret
  exact ⟨rfl, rfl⟩
set_option maxRecDepth 1000000 in
theorem place_impl (w : World) (h : Hd) (n : Int) : Calls Tryz.prog 98 #[.agg #[.int .i64 h.n, .string h.r], .int .i64 n] w fun e w' => e = .returned (.bool (decide (0 ≤ n ∧ n < h.n))) ∧ Below w.heap.size w w' := by
 have HB : Hid (Below w.heap.size w (w.alloc (.cells #[.int .i64 h.n, .string h.r] 26))) := (Below.refl _ _).alloc (Nat.le_refl _) _
 by_cases h0 : 0 ≤ n
 ·have d0 : decide (0 ≤ n) = true := decide_eq_true h0
  by_cases h1 : n < h.n
  ·have HN : Hid (decide (0 ≤ n ∧ n < h.n) = true) := decide_eq_true ⟨h0, h1⟩
   have d1 : decide (n < h.n) = true := decide_eq_true h1
   rw [HN.out]
   go_enter Tryz.func98, Tryz.ntmps98
   go_wp2
   go_ret
   exact ⟨rfl, HB.out⟩
  ·have HN : Hid (decide (0 ≤ n ∧ n < h.n) = false) := decide_eq_false (fun q => h1 q.2)
   have d1 : decide (n < h.n) = false := decide_eq_false h1
   rw [HN.out]
   go_enter Tryz.func98, Tryz.ntmps98
   go_wp2
   go_ret
   exact ⟨rfl, HB.out⟩
 ·have d0 : decide (0 ≤ n) = false := decide_eq_false h0
  have HN : Hid (decide (0 ≤ n ∧ n < h.n) = false) := decide_eq_false (fun q => h0 q.1)
  rw [HN.out]
  go_enter Tryz.func98, Tryz.ntmps98
  go_wp2
  go_ret
  exact ⟨rfl, HB.out⟩
theorem method_h (v : Value) (w : World) : (Go.method 374 123 v "loop.example/g00233/impl.upTo").run Tryz.prog w = .ok (218, v) w := by kernel_rfl
set_option maxRecDepth 1000000 in
theorem upto_h (w : World) (h : Hd) : Calls Tryz.prog 218 #[.agg #[.int .i64 h.n, .string h.r]] w fun e w' => e = .returned (.agg #[.int .i64 h.n, .string h.r]) ∧ Below w.heap.size w w' := by
 have B0 : Hid (Below w.heap.size w w) := Below.refl _ _
 obtain ⟨W1, HW1, b1, y1, hS1, r_a1, r_res1⟩ := Ke.l2 w #[.int .i64 h.n, .string h.r] 123 #[.int .i64 0, .string ⟨#[]⟩] 26
 have z1 := b1.size
 have B1 := Ke.b B0 b1
 go_enter Tryz.func218, Tryz.ntmps218
 go_wp2_with ((try rw [HW1.out]); refine wpList_store_row rfl 26 _ _ rfl (w.heap.size + 1) (hc h) rfl rfl 26 _ r_res1.out (sizeH h) rfl (oneH h) ?_)
 exact bodyPost_ret (v := .agg (hc h)) (results_cell_row rfl _ _ (w.heap.size + 1) 26 _ (0, 0) _ rfl (setRow_heap _ _ _ _ _ (0, 0) r_res1.out) Tryz.underlying26 rfl (sizeH h)) rfl ⟨rfl, below_setRow B1.out (by omega) _⟩
theorem method_a (v : Value) (w : World) : (Go.method 374 125 v "loop.example/g00233/impl.upTo").run Tryz.prog w = .ok (219, v) w := by kernel_rfl
set_option maxRecDepth 1000000 in
theorem upto_a (w : World) (h : Hd) (n : Int) : Calls Tryz.prog 219 #[.agg #[.int .i64 h.n, .string h.r, .int .i64 n]] w fun e w' => e = .returned (.agg #[.int .i64 h.n, .string h.r]) ∧ Below w.heap.size w w' := by
 have B0 : Hid (Below w.heap.size w w) := Below.refl _ _
 obtain ⟨W1, HW1, b1, y1, hS1, r_a1, r_res1⟩ := Ke.l2 w #[.int .i64 h.n, .string h.r, .int .i64 n] 125 #[.int .i64 0, .string ⟨#[]⟩] 26
 have z1 := b1.size
 have B1 := Ke.b B0 b1
 go_enter Tryz.func219, Tryz.ntmps219
 go_wp2_with ((try rw [HW1.out]); refine wpList_store_row rfl 26 _ _ rfl (w.heap.size + 1) (hc h) rfl rfl 26 _ r_res1.out (sizeH h) rfl (oneH h) ?_)
 exact bodyPost_ret (v := .agg (hc h)) (results_cell_row rfl _ _ (w.heap.size + 1) 26 _ (0, 0) _ rfl (setRow_heap _ _ _ _ _ (0, 0) r_res1.out) Tryz.underlying26 rfl (sizeH h)) rfl ⟨rfl, below_setRow B1.out (by omega) _⟩
theorem method_t (v : Value) (w : World) : (Go.method 374 127 v "loop.example/g00233/impl.upTo").run Tryz.prog w = .ok (220, v) w := by kernel_rfl
set_option maxRecDepth 1000000 in
theorem upto_t (w : World) (h : Hd) (n : Int) (ao0 : Option Addr) (L cap0 : Nat) : Calls Tryz.prog 220 #[.agg #[.int .i64 h.n, .string h.r, .int .i64 n, .slice ao0 L cap0]] w fun e w' => e = .returned (.agg #[.int .i64 h.n, .string h.r]) ∧ Below w.heap.size w w' := by
 have B0 : Hid (Below w.heap.size w w) := Below.refl _ _
 obtain ⟨W1, HW1, b1, y1, hS1, r_a1, r_res1⟩ := Ke.l2 w #[.int .i64 h.n, .string h.r, .int .i64 n, .slice ao0 L cap0] 127 #[.int .i64 0, .string ⟨#[]⟩] 26
 have z1 := b1.size
 have B1 := Ke.b B0 b1
 go_enter Tryz.func220, Tryz.ntmps220
 go_wp2_with ((try rw [HW1.out]); refine wpList_store_row rfl 26 _ _ rfl (w.heap.size + 1) (hc h) rfl rfl 26 _ r_res1.out (sizeH h) rfl (oneH h) ?_)
 exact bodyPost_ret (v := .agg (hc h)) (results_cell_row rfl _ _ (w.heap.size + 1) 26 _ (0, 0) _ rfl (setRow_heap _ _ _ _ _ (0, 0) r_res1.out) Tryz.underlying26 rfl (sizeH h)) rfl ⟨rfl, below_setRow B1.out (by omega) _⟩
theorem kind_top {m : Ms} (h : Mg.kindOk m = true) (ho : okH m.h = true) : m.n ≤ 200 := by
 have h1 := okH_parts13 ho
 unfold Mg.kindOk at h
 split at h
 ·simp only [Bool.and_eq_true, decide_eq_true_eq] at h
  omega
 ·split at h
  ·simp only [Bool.and_eq_true, decide_eq_true_eq] at h
   omega
  ·split at h
   ·simp only [Bool.and_eq_true, decide_eq_true_eq] at h
    omega
   ·cases h
theorem msg_alt (m : Ms) : msgOk m = (decide (0 ≤ m.f ∧ m.f ≤ 20) && decide (0 ≤ m.t ∧ m.t ≤ 20) && !decide (m.f = m.t) && (okH m.h && decide (0 ≤ m.n) && Mg.kindOk m)) := by
 rw [Bool.eq_iff_iff]
 unfold msgOk face
 simp only [Bool.and_eq_true, decide_eq_true_eq, Bool.not_eq_true', decide_eq_false_iff_not]
 constructor
 ·rintro ⟨⟨⟨⟨⟨a, b⟩, c⟩, d⟩, e⟩, f⟩
  exact ⟨⟨⟨a, b⟩, c⟩, ⟨d, e.1⟩, f⟩
 ·rintro ⟨⟨⟨a, b⟩, c⟩, ⟨d, e⟩, f⟩
  exact ⟨⟨⟨⟨⟨a, b⟩, c⟩, d⟩, ⟨e, kind_top f d⟩⟩, f⟩
set_option maxRecDepth 1000000 in
theorem right_h (w : World) (h : Hd) (hr : h.r.size ≤ 1000000000000) : Calls Tryz.prog 56 #[.iface 123 (.agg #[.int .i64 h.n, .string h.r])] w fun e w' => e = .returned (.bool (okH h)) ∧ Below w.heap.size w w' := by
 have B0 : Hid (Below w.heap.size w w) := Below.refl _ _
 have m1 := method_h
 have qh : ∀ W, _ := fun W => He.ok_impl W h hr
 obtain ⟨A, hA⟩ : ∃ A, okH h = A := ⟨_, rfl⟩
 simp only [hA] at qh
 rw [hA]
 have HA : Hid (okH h = A) := hA
 clear hA
 have t_hh := fun W v => ta_hh W v
 have t_ha := fun W v => ta_ha W v
 have t_ht := fun W v => ta_ht W v
 go_enter Tryz.func56, Tryz.ntmps56
 go_wp2_with fail
 refine (upto_h w h).mono ?_
 rintro e W1 ⟨rfl, b1⟩
 have z1 := b1.size
 have B1 := Ke.b B0 b1
 go_wp2_with fail
 refine (qh W1).mono ?_
 rintro e W2 ⟨rfl, b2⟩
 have z2 := b2.size
 have B2 := Ke.b B1 b2
 clear qh
 cases A
 ·go_wp2
  go_ret
  exact ⟨rfl, B2.out⟩
 ·obtain ⟨W3, HW3, b3, y3, hS3, r_u3⟩ := Ke.l1 W2 #[.int .i64 h.n, .string h.r] 123
  have z3 := b3.size
  have B3 := Ke.b B2 b3
  go_wp2
  go_ret
  exact ⟨rfl, by rw [HW3.out]; exact B3.out⟩
set_option maxRecDepth 1000000 in
theorem right_a (w : World) (h : Hd) (n : Int) (hr : h.r.size ≤ 1000000000000) : Calls Tryz.prog 56 #[.iface 125 (.agg #[.int .i64 h.n, .string h.r, .int .i64 n])] w fun e w' => e = .returned (.bool (okH h && decide (0 ≤ n ∧ n < h.n))) ∧ Below w.heap.size w w' := by
 have B0 : Hid (Below w.heap.size w w) := Below.refl _ _
 have m1 := method_a
 have qh : ∀ W, _ := fun W => He.ok_impl W h hr
 obtain ⟨A, hA⟩ : ∃ A, okH h = A := ⟨_, rfl⟩
 simp only [hA] at qh
 rw [hA]
 have HA : Hid (okH h = A) := hA
 clear hA
 have qp : ∀ W, _ := fun W => place_impl W h n
 obtain ⟨P, hP⟩ : ∃ P, decide (0 ≤ n ∧ n < h.n) = P := ⟨_, rfl⟩
 simp only [hP] at qp
 rw [hP]
 have HP : Hid (decide (0 ≤ n ∧ n < h.n) = P) := hP
 clear hP
 have t_ah := fun W v => ta_ah W v
 have t_aa := fun W v => ta_aa W v
 have t_at := fun W v => ta_at W v
 go_enter Tryz.func56, Tryz.ntmps56
 go_wp2_with fail
 refine (upto_a w h n).mono ?_
 rintro e W1 ⟨rfl, b1⟩
 have z1 := b1.size
 have B1 := Ke.b B0 b1
 go_wp2_with fail
 refine (qh W1).mono ?_
 rintro e W2 ⟨rfl, b2⟩
 have z2 := b2.size
 have B2 := Ke.b B1 b2
 clear qh
 cases A
 ·go_wp2
  go_ret
  exact ⟨rfl, B2.out⟩
 ·obtain ⟨W3, HW3, b3, y3, hS3, r_u3⟩ := Ke.l1 W2 #[.int .i64 h.n, .string h.r, .int .i64 n] 125
  have z3 := b3.size
  have B3 := Ke.b B2 b3
  go_wp2_with fail
  rw [HW3.out]
  refine (qp W3).mono ?_
  rintro e W4 ⟨rfl, b4⟩
  have z4 := b4.size
  have B4 := Ke.b B3 b4
  clear r_u3
  clear qp
  go_wp2
  go_ret
  exact ⟨by simp, B4.out⟩
set_option maxRecDepth 1000000 in
theorem right_t (w : World) (h : Hd) (n : Int) (ao0 : Option Addr) (L cap0 : Nat) (hr : h.r.size ≤ 1000000000000) (hL : L ≤ 1000000000000) : Calls Tryz.prog 56 #[.iface 127 (.agg #[.int .i64 h.n, .string h.r, .int .i64 n, .slice ao0 L cap0])] w fun e w' => e = .returned (.bool (okH h && decide (0 ≤ n ∧ n < h.n) && decide ((L : Int) = h.n - n))) ∧ Below w.heap.size w w' := by
 have B0 : Hid (Below w.heap.size w w) := Below.refl _ _
 have m1 := method_t
 have qh : ∀ W, _ := fun W => He.ok_impl W h hr
 obtain ⟨A, hA⟩ : ∃ A, okH h = A := ⟨_, rfl⟩
 simp only [hA] at qh
 rw [hA]
 have HA : Hid (okH h = A) := hA
 clear hA
 have qp : ∀ W, _ := fun W => place_impl W h n
 obtain ⟨P, hP⟩ : ∃ P, decide (0 ≤ n ∧ n < h.n) = P := ⟨_, rfl⟩
 simp only [hP] at qp
 rw [hP]
 have HP : Hid (decide (0 ≤ n ∧ n < h.n) = P) := hP
 clear hP
 have t_th := fun W v => ta_th W v
 have t_ta := fun W v => ta_ta W v
 have t_tt := fun W v => ta_tt W v
 go_enter Tryz.func56, Tryz.ntmps56
 go_wp2_with fail
 refine (upto_t w h n ao0 L cap0).mono ?_
 rintro e W1 ⟨rfl, b1⟩
 have z1 := b1.size
 have B1 := Ke.b B0 b1
 go_wp2_with fail
 refine (qh W1).mono ?_
 rintro e W2 ⟨rfl, b2⟩
 have z2 := b2.size
 have B2 := Ke.b B1 b2
 clear qh
 cases A
 ·go_wp2
  go_ret
  exact ⟨rfl, B2.out⟩
 ·obtain ⟨W3, HW3, b3, y3, hS3, r_u3⟩ := Ke.l1 W2 #[.int .i64 h.n, .string h.r, .int .i64 n, .slice ao0 L cap0] 127
  have z3 := b3.size
  have B3 := Ke.b B2 b3
  go_wp2_with fail
  rw [HW3.out]
  refine (qp W3).mono ?_
  rintro e W4 ⟨rfl, b4⟩
  have z4 := b4.size
  have B4 := Ke.b B3 b4
  have r_u4 := Ke.r r_u3 b4
  have c_u4 := Ke.c r_u4
  clear r_u3
  clear qp
  cases P
  ·go_wp2
   go_ret
   exact ⟨by simp, B4.out⟩
  ·have hp := of_decide_eq_true HP.out
   have hh := okH_parts13 HA.out
   have wr : IntKind.i64.wrap (h.n - n) = h.n - n := by rw [IntKind.wrap_i64]; omega
   clear hh
   by_cases l0 : (L : Int) = h.n - n
   ·have l2 : ((L : Int) == h.n - n) = true := by rw [l0]; simp
    have HL0 : Hid (decide ((L : Int) = h.n - n) = true) := decide_eq_true l0
    clear l0
    go_wp2
    go_ret
    exact ⟨by rw [HL0.out]; rfl, B4.out⟩
   ·have l2 : ((L : Int) == h.n - n) = false := by rw [beq_eq_false_iff_ne]; exact l0
    have HL0 : Hid (decide ((L : Int) = h.n - n) = false) := decide_eq_false l0
    go_wp2
    go_ret
    exact ⟨by rw [HL0.out]; rfl, B4.out⟩
set_option maxRecDepth 1000000 in
theorem word_any (w : World) (k f t n : Int) (h : Hd) (x : List ByteArray) (ao0 : Option Addr) (cap0 : Nat) (hr : h.r.size ≤ 1000000000000) (hl : x.length ≤ 1000000000000) :
  Calls Tryz.prog 55 #[.agg #[.int .i64 k, .int .i64 f, .int .i64 t, .int .i64 h.n, .string h.r, .int .i64 n, .slice ao0 x.length cap0]] w fun e w' => (∃ X, e = .returned X ∧ ((X = .nilIface ∧ Hid (Mg.kindOk ⟨k, f, t, h, n, x⟩ = false)) ∨ ∃ T u, X = .iface T u ∧ Hid (∀ W, Calls Tryz.prog 56 #[.iface T u] W fun e w' => e = .returned (.bool (okH h && decide (0 ≤ n) && Mg.kindOk ⟨k, f, t, h, n, x⟩)) ∧ Below W.heap.size W w'))) ∧ Below w.heap.size w w' := by
 by_cases c1 : k = 1 ∧ n = 0 ∧ x.length = 0
 ·obtain ⟨rfl, rfl, c⟩ := c1
  have hx : x = [] := List.eq_nil_of_length_eq_zero c
  subst hx
  refine (word1 w f t h ao0 cap0).mono ?_
  rintro e w' ⟨rfl, hb⟩
  refine ⟨⟨_, rfl, .inr ⟨_, _, rfl, fun W => (right_h W h hr).mono ?_⟩⟩, hb⟩
  rintro e w' ⟨rfl, hb⟩
  exact ⟨by simp [Mg.kindOk], hb⟩
 ·by_cases c2 : k = 2 ∧ x.length = 0
  ·obtain ⟨rfl, c⟩ := c2
   have hx : x = [] := List.eq_nil_of_length_eq_zero c
   subst hx
   refine (word2 w f t n h ao0 cap0).mono ?_
   rintro e w' ⟨rfl, hb⟩
   refine ⟨⟨_, rfl, .inr ⟨_, _, rfl, fun W => (right_a W h n hr).mono ?_⟩⟩, hb⟩
   rintro e w' ⟨rfl, hb⟩
   exact ⟨by simp [Mg.kindOk, Bool.and_assoc], hb⟩
  ·by_cases c3 : k = 3
   ·subst c3
    refine (word3 w f t n h ao0 x.length cap0).mono ?_
    rintro e w' ⟨rfl, hb⟩
    refine ⟨⟨_, rfl, .inr ⟨_, _, rfl, fun W => (right_t W h n ao0 x.length cap0 hr hl).mono ?_⟩⟩, hb⟩
    rintro e w' ⟨rfl, hb⟩
    exact ⟨by simp [Mg.kindOk, Bool.and_assoc], hb⟩
   ·refine (word0 w k f t n h ao0 x.length cap0 c1 c2 c3).mono ?_
    rintro e w' ⟨rfl, hb⟩
    refine ⟨⟨_, rfl, .inl ⟨rfl, ?_⟩⟩, hb⟩
    show _ = _
    unfold Mg.kindOk
    simp only
    split
    ·rename_i q
     subst q
     by_cases c : n = 0
     ·have : ¬ x.length = 0 := fun z => c1 ⟨rfl, c, z⟩
      simp [this]
     ·simp [c]
    ·split
     ·rename_i q
      subst q
      have : ¬ x.length = 0 := fun z => c2 ⟨rfl, z⟩
      simp [this]
     ·rfl
set_option maxRecDepth 1000000 in
theorem msgok_impl (w : World) (v : Value) (m : Ms) (hs : Sl w v (ss m.x)) (hl : m.x.length ≤ 1000000000000) (hr : m.h.r.size ≤ 1000000000000) :
  Calls Tryz.prog 15 #[.agg #[.int .i64 m.k, .int .i64 m.f, .int .i64 m.t, .int .i64 m.h.n, .string m.h.r, .int .i64 m.n, v]] w fun e w' => e = .returned (.bool (msgOk m)) ∧ Below w.heap.size w w' := by
 rw [msg_alt]
 obtain ⟨R, hR⟩ : ∃ R, (decide (0 ≤ m.f ∧ m.f ≤ 20) && decide (0 ≤ m.t ∧ m.t ≤ 20) && !decide (m.f = m.t) && (okH m.h && decide (0 ≤ m.n) && Mg.kindOk m)) = R := ⟨_, rfl⟩
 rw [hR]
 have HR : Hid ((decide (0 ≤ m.f ∧ m.f ≤ 20) && decide (0 ≤ m.t ∧ m.t ≤ 20) && !decide (m.f = m.t) && (okH m.h && decide (0 ≤ m.n) && Mg.kindOk m)) = R) := hR
 clear hR
 obtain ⟨k, f, t, h, n, x⟩ := m
 simp only at *
 have HS : Hid (Sl w v (ss x)) := hs
 obtain ⟨ao0, cap0, rfl, hc0⟩ := hs.form
 simp only [ss_len] at *
 clear hs
 have B0 : Hid (Below w.heap.size w w) := Below.refl _ _
 obtain ⟨W1, HW1, b1, y1, hS1, r_a1⟩ := Ke.l1 w #[.int .i64 k, .int .i64 f, .int .i64 t, .int .i64 h.n, .string h.r, .int .i64 n, .slice ao0 x.length cap0] 35
 have z1 := b1.size
 have B1 := Ke.b B0 b1
 have qm : ∀ W n, _ := fun W n => mirror_impl W n
 have qw : ∀ W, _ := fun W => word_any W k f t n h x ao0 cap0 hr hl
 go_enter Tryz.func15, Tryz.ntmps15
 go_wp2_with fail
 rw [HW1.out]
 refine (qw W1).mono ?_
 rintro e W2 ⟨⟨X, rfl, hX⟩, b2⟩
 have z2 := b2.size
 have B2 := Ke.b B1 b2
 have r_a2 := Ke.r r_a1 b2
 have c_a2 := Ke.c r_a2
 clear r_a1
 clear qw
 rcases hX with hX | hX
 ·obtain ⟨rfl, HX⟩ := hX
  go_wp2_with fail
  refine (qm W2 f).mono ?_
  rintro e W_ ⟨rfl, hW_⟩
  subst hW_
  obtain ⟨If, hIf⟩ : ∃ I, decide (0 ≤ f ∧ f ≤ 20) = I := ⟨_, rfl⟩
  rw [hIf]
  have HIf : Hid (decide (0 ≤ f ∧ f ≤ 20) = If) := hIf
  clear hIf
  cases If
  ·have HN : Hid (R = false) := by show _ = _; rw [← HR.out]; rw [HIf.out]; rfl
   go_wp2
   go_ret
   exact ⟨by rw [HN.out]; rfl, B2.out⟩
  ·go_wp2_with fail
   refine (qm W2 t).mono ?_
   rintro e W_ ⟨rfl, hW_⟩
   subst hW_
   obtain ⟨It, hIt⟩ : ∃ I, decide (0 ≤ t ∧ t ≤ 20) = I := ⟨_, rfl⟩
   rw [hIt]
   have HIt : Hid (decide (0 ≤ t ∧ t ≤ 20) = It) := hIt
   clear hIt
   cases It
   ·have HN : Hid (R = false) := by show _ = _; rw [← HR.out]; rw [HIt.out]; simp
    go_wp2
    go_ret
    exact ⟨by rw [HN.out]; rfl, B2.out⟩
   ·by_cases hft : f = t
    ·subst hft
     have hbb : (f == f) = true := by simp
     have hbc : (f != f) = false := by simp
     have HN : Hid (R = false) := by show _ = _; rw [← HR.out]; simp
     go_wp2
     go_ret
     exact ⟨by rw [HN.out]; rfl, B2.out⟩
    ·have hbb : (f == t) = false := by rw [beq_eq_false_iff_ne]; exact hft
     have hbc : (f != t) = true := by rw [bne, hbb]; rfl
     have HN : Hid (R = false) := by show _ = _; rw [← HR.out]; rw [HX.out]; simp
     go_wp2
     go_ret
     exact ⟨by rw [HN.out]; rfl, B2.out⟩
 ·obtain ⟨T, u, rfl, HX⟩ := hX
  go_wp2_with fail
  refine (qm W2 f).mono ?_
  rintro e W_ ⟨rfl, hW_⟩
  subst hW_
  obtain ⟨If, hIf⟩ : ∃ I, decide (0 ≤ f ∧ f ≤ 20) = I := ⟨_, rfl⟩
  rw [hIf]
  have HIf : Hid (decide (0 ≤ f ∧ f ≤ 20) = If) := hIf
  clear hIf
  cases If
  ·have HN : Hid (R = false) := by show _ = _; rw [← HR.out]; rw [HIf.out]; rfl
   go_wp2
   go_ret
   exact ⟨by rw [HN.out]; rfl, B2.out⟩
  ·go_wp2_with fail
   refine (qm W2 t).mono ?_
   rintro e W_ ⟨rfl, hW_⟩
   subst hW_
   obtain ⟨It, hIt⟩ : ∃ I, decide (0 ≤ t ∧ t ≤ 20) = I := ⟨_, rfl⟩
   rw [hIt]
   have HIt : Hid (decide (0 ≤ t ∧ t ≤ 20) = It) := hIt
   clear hIt
   cases It
   ·have HN : Hid (R = false) := by show _ = _; rw [← HR.out]; rw [HIt.out]; simp
    go_wp2
    go_ret
    exact ⟨by rw [HN.out]; rfl, B2.out⟩
   ·by_cases hft : f = t
    ·subst hft
     have hbb : (f == f) = true := by simp
     have hbc : (f != f) = false := by simp
     have HN : Hid (R = false) := by show _ = _; rw [← HR.out]; simp
     go_wp2
     go_ret
     exact ⟨by rw [HN.out]; rfl, B2.out⟩
    ·have hbb : (f == t) = false := by rw [beq_eq_false_iff_ne]; exact hft
     have hbc : (f != t) = true := by rw [bne, hbb]; rfl
     obtain ⟨A, hA⟩ : ∃ A, (okH h && decide (0 ≤ n) && Mg.kindOk ⟨k, f, t, h, n, x⟩) = A := ⟨_, rfl⟩
     have qX := HX.out
     simp only [hA] at qX
     have HN : Hid (R = A) := by show _ = _; rw [← HR.out, HIf.out, HIt.out, hA]; simp [hft]
     clear hA HX
     go_wp2_with fail
     refine (qX W2).mono ?_
     rintro e W3 ⟨rfl, b3⟩
     have z3 := b3.size
     have B3 := Ke.b B2 b3
     clear r_a2 c_a2
     clear qX
     go_wp2
     go_ret
     exact ⟨by rw [HN.out]; simp, B3.out⟩
end Go.Proofs.YtchonoonclllbaaGreatDoor.Wd
