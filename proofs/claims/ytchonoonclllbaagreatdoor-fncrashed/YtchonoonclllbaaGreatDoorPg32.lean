/- Texts in one: LhA, LhN, LhO, KpG, KpH, HfB, WdA. -/
import Derived.Test.YtchonoonclllbaaGreatDoorPg6
import Derived.Test.YtchonoonclllbaaGreatDoorPg10
import Derived.Test.YtchonoonclllbaaGreatDoorPg31
import Derived.Test.YtchonoonclllbaaGreatDoorPg5
import Derived.Test.YtchonoonclllbaaGreatDoorPg25
import Derived.Test.YtchonoonclllbaaGreatDoorPg30
import Derived.Test.YtchonoonclllbaaGreatDoorPg27
import Derived.Test.YtchonoonclllbaaGreatDoorPg14
namespace Go.Proofs.YtchonoonclllbaaGreatDoor.Lg
open Go.RowKit Go.Proofs.YtchonoonclllbaaGreatDoor.Mem Go.Proofs.YtchonoonclllbaaGreatDoor.Laws Go.Proofs.YtchonoonclllbaaGreatDoor.Bytes Go.Proofs.YtchonoonclllbaaGreatDoor.Sha Go.Proofs.YtchonoonclllbaaGreatDoor.Tr Go.Proofs.YtchonoonclllbaaGreatDoor.He
set_option linter.unusedVariables false
set_option linter.unusedSimpArgs false
theorem Own.none9 (w : World) (lo hi : Nat) : Own w lo hi 9 (.slice none 0 0) (ss []) := ⟨⟨rfl, Or.inl ⟨rfl, rfl⟩⟩, fun g hg => by simp [Value.ownBlock] at hg⟩
set_option maxRecDepth 1000000 in
set_option maxHeartbeats 2000000 in
theorem logok_impl (w : World) (v : Value) (l : List ByteArray) (h : Hd) (hG : Glob w) (hs : Sl w v (ss l)) (hl : l.length ≤ 1000000000000) (hz : ∀ s ∈ l, s.size ≤ 10000000000) :
  Calls Tryz.prog 69 #[.agg #[v, .int .i64 h.n, .string h.r]] w fun e w' => e = .returned (.bool (logOk l h)) ∧ Below w.heap.size w w' := by
 have hs0 := hs
 obtain ⟨ao, cap, rfl, hcap⟩ := hs.form
 rw [ss_len] at *
 obtain ⟨W, hW, r0, HB⟩ : ∃ W, Hid (w.alloc (.cells #[.slice ao l.length cap, .int .i64 h.n, .string h.r] 28) = W) ∧ W.heap[w.heap.size]? = some (.cells (lc (.slice ao l.length cap) h) 28 (0, 0)) ∧ Hid (Below w.heap.size w W) := ⟨_, rfl, heap_alloc_new w _, (Below.refl _ _).alloc (Nat.le_refl _) _⟩
 have c0 : W.cell? ⟨w.heap.size, 0, none⟩ = some (.slice ao l.length cap) := row_at r0 0
 have c1 : W.cell? ⟨w.heap.size, 1, none⟩ = some (.int .i64 h.n) := row_at r0 1
 have c2 : W.cell? ⟨w.heap.size, 2, none⟩ = some (.string h.r) := row_at r0 2
 have q := headOf_impl W.drew _ l (hG.later (Below.drew HB.out)) (hs0.later (Below.drew HB.out)) hl hz
 have e1 : ∀ W', _ := fun W' => eqlH W' h (headOf l)
 have e2 : ∀ W' op x y xs ys, _ := fun W' op x y xs ys => grdH W' op x y xs ys
 have HN : Hid (logOk l h = (decide (l.length ≤ 200) && eqH h (headOf l))) := rfl
 obtain ⟨M, hM⟩ : ∃ M, headOf l = M := ⟨_, rfl⟩
 rw [hM] at q HN
 simp only [hM] at e1
 obtain ⟨B, hB⟩ : ∃ B, eqH h M = B := ⟨_, rfl⟩
 rw [hB] at HN
 simp only [hB] at e1
 obtain ⟨A, hA⟩ : ∃ A, logOk l h = A := ⟨_, rfl⟩
 rw [hA] at HN ⊢
 clear hM hB hA hs hs0 r0 hz hG
 by_cases h2 : l.length ≤ 200
 ·
  have d1 : decide ((l.length : Int) ≤ 200) = true := by simp; omega
  have HN2 : Hid (A = B) := by show _ = _; rw [HN.out]; simp [h2]
  clear HN
  go_enter Tryz.func69, Tryz.ntmps69
  go_wp2_with fail
  rw [hW.out]
  refine wp_region_held_drew (S := fun w' => w'.cell? ⟨w.heap.size, 0, none⟩ = some (.slice ao l.length cap) ∧ w'.cell? ⟨w.heap.size, 1, none⟩ = some (.int .i64 h.n) ∧ w'.cell? ⟨w.heap.size, 2, none⟩ = some (.string h.r)) (by kernel_rfl) ⟨c0, c1, c2⟩ (fun hHeld => ?_)
  refine Ke.y 0 rfl (fun _ _ _ h => h) ?_
  try simp only [Act.put, pu1, pu2, pu3, pu4, pu5, pu6]
  refine Ke.y 1 rfl (fun _ _ _ h => h) ?_
  try simp only [Act.put, pu1, pu2, pu3, pu4, pu5, pu6]
  refine Ke.y 2 rfl (fun _ _ _ h => h) ?_
  try simp only [Act.put, pu1, pu2, pu3, pu4, pu5, pu6]
  refine Ke.y 3 rfl (fun _ _ _ h => h) ?_
  try simp only [Act.put, pu1, pu2, pu3, pu4, pu5, pu6]
  refine Ke.y 4 rfl (fun _ _ _ h => h) ?_
  try simp only [Act.put, pu1, pu2, pu3, pu4, pu5, pu6]
  refine Ke.y 5 rfl (fun _ _ _ h => h) ?_
  try simp only [Act.put, pu1, pu2, pu3, pu4, pu5, pu6]
  refine Ke.y 6 rfl (fun _ _ _ h => h) ?_
  try simp only [Act.put, pu1, pu2, pu3, pu4, pu5, pu6]
  refine Ke.y 7 rfl (fun _ _ _ h => h) ?_
  try simp only [Act.put, pu1, pu2, pu3, pu4, pu5, pu6]
  refine Ke.y 8 rfl (fun _ _ _ h => h) ?_
  try simp only [Act.put, pu1, pu2, pu3, pu4, pu5, pu6]
  refine Ke.z 9 rfl (fun K hK => ?_)
  go_simp
  refine (q).mono ?_
  rintro e w1 ⟨rfl, b1⟩
  refine hK.out _ _ ?_ (fun hHeld => ?_)
  ·
   exact ⟨keepR (W := W.drew) hHeld.1 b1, keepR (W := W.drew) hHeld.2.1 b1, keepR (W := W.drew) hHeld.2.2 b1⟩
  clear hK K
  try simp only [Act.put, pu1, pu2, pu3, pu4, pu5, pu6]
  refine Ke.y 10 rfl (fun _ _ _ h => h) ?_
  try simp only [Act.put, pu1, pu2, pu3, pu4, pu5, pu6]
  refine Ke.y 11 rfl (fun _ _ _ h => h) ?_
  try simp only [Act.put, pu1, pu2, pu3, pu4, pu5, pu6]
  refine Ke.y 12 rfl (fun _ _ _ h => h) ?_
  try simp only [Act.put, pu1, pu2, pu3, pu4, pu5, pu6]
  refine wpAnyH_done (by kernel_rfl) ?_ _
  clear hHeld
  go_wp2
  go_ret
  exact ⟨by rw [HN2.out]; rfl, (Below.drew HB.out).trans (b1.mono HB.out.size)⟩
 ·
  have d1 : decide ((l.length : Int) ≤ 200) = false := by simp; omega
  have HN2 : Hid (A = false) := by show _ = _; rw [HN.out]; simp [h2]
  clear HN q
  go_enter Tryz.func69, Tryz.ntmps69
  go_wp2_with fail
  rw [hW.out]
  refine wp_region_held_drew (S := fun w' => w'.cell? ⟨w.heap.size, 0, none⟩ = some (.slice ao l.length cap) ∧ w'.cell? ⟨w.heap.size, 1, none⟩ = some (.int .i64 h.n) ∧ w'.cell? ⟨w.heap.size, 2, none⟩ = some (.string h.r)) (by kernel_rfl) ⟨c0, c1, c2⟩ (fun hHeld => ?_)
  refine Ke.y 0 rfl (fun _ _ _ h => h) ?_
  try simp only [Act.put, pu1, pu2, pu3, pu4, pu5, pu6]
  refine Ke.y 1 rfl (fun _ _ _ h => h) ?_
  try simp only [Act.put, pu1, pu2, pu3, pu4, pu5, pu6]
  refine Ke.y 2 rfl (fun _ _ _ h => h) ?_
  try simp only [Act.put, pu1, pu2, pu3, pu4, pu5, pu6]
  refine Ke.y 3 rfl (fun _ _ _ h => h) ?_
  try simp only [Act.put, pu1, pu2, pu3, pu4, pu5, pu6]
  refine Ke.y 4 rfl (fun _ _ _ h => h) ?_
  try simp only [Act.put, pu1, pu2, pu3, pu4, pu5, pu6]
  refine Ke.x 5 rfl (fun _ _ _ h => h) ?_
  try simp only [Act.put, pu1, pu2, pu3, pu4, pu5, pu6]
  refine Ke.x 6 rfl (fun _ _ _ h => h) ?_
  try simp only [Act.put, pu1, pu2, pu3, pu4, pu5, pu6]
  refine Ke.x 7 rfl (fun _ _ _ h => h) ?_
  try simp only [Act.put, pu1, pu2, pu3, pu4, pu5, pu6]
  refine Ke.x 8 rfl (fun _ _ _ h => h) ?_
  try simp only [Act.put, pu1, pu2, pu3, pu4, pu5, pu6]
  refine Ke.x 9 rfl (fun _ _ _ h => h) ?_
  try simp only [Act.put, pu1, pu2, pu3, pu4, pu5, pu6]
  refine Ke.x 10 rfl (fun _ _ _ h => h) ?_
  try simp only [Act.put, pu1, pu2, pu3, pu4, pu5, pu6]
  refine Ke.y 11 rfl (fun _ _ _ h => h) ?_
  try simp only [Act.put, pu1, pu2, pu3, pu4, pu5, pu6]
  refine Ke.y 12 rfl (fun _ _ _ h => h) ?_
  try simp only [Act.put, pu1, pu2, pu3, pu4, pu5, pu6]
  refine wpAnyH_done (by kernel_rfl) ?_ _
  clear hHeld
  go_wp2
  go_ret
  exact ⟨by rw [HN2.out]; rfl, Below.drew HB.out⟩
set_option maxRecDepth 1000000 in
set_option maxHeartbeats 2000000 in
theorem logof_impl (w : World) (v : Value) (l : List ByteArray) (hG : Glob w) (hs : Sl w v (ss l)) (hl : l.length ≤ 1000000000000) (hz : ∀ s ∈ l, s.size ≤ 10000000000) :
  Calls Tryz.prog 107 #[v] w fun e w' => e = .returned (.agg #[v, .int .i64 (headOf l).n, .string (headOf l).r]) ∧ Below w.heap.size w w' := by
 have HS : Hid (Sl w v (ss l)) := hs
 have HG : Hid (Glob w) := hG
 obtain ⟨ao, cap, rfl, hcap⟩ := hs.form
 rw [ss_len] at *
 clear hs hG
 have B0 : Hid (Below w.heap.size w w) := Below.refl _ _
 obtain ⟨W1, HW1, b1, y1, hS1, r_res1⟩ := Ke.l1 w #[.slice none 0 0, .int .i64 0, .string ⟨#[]⟩] 28
 have z1 := b1.size
 have B1 := Ke.b B0 b1
 have q : ∀ W v1, Glob W → Sl W v1 (ss l) → _ := fun W v1 h0 h1 => headOf_impl W v1 l h0 h1 hl hz
 obtain ⟨M, hM⟩ : ∃ M, headOf l = M := ⟨_, rfl⟩
 simp only [hM] at q
 rw [hM]
 clear hM hz
 go_enter Tryz.func107, Tryz.ntmps107
 go_wp2_with fail
 rw [HW1.out]
 refine (q W1 _ (HG.out.later B1.out) (HS.out.later B1.out)).mono ?_
 rintro e W2 ⟨rfl, b2⟩
 have z2 := b2.size
 have B2 := Ke.b B1 b2
 have r_res2 := Ke.r r_res1 b2
 clear r_res1
 go_wp2_with (refine wpList_store_row rfl 28 _ _ rfl (w.heap.size) (lc (.slice ao l.length cap) M) rfl rfl 28 _ r_res2.out (sizeL _ _) rfl (oneL _ rfl) ?_)
 refine bodyPost_ret (v := .agg (lc (.slice ao l.length cap) M)) (results_cell_row rfl _ _ (w.heap.size) 28 _ (0, 0) _ rfl (setRow_heap _ _ _ _ _ (0, 0) r_res2.out) Tryz.underlying28 rfl (sizeL _ _)) rfl ⟨rfl, below_setRow B2.out (by omega) _⟩
set_option maxRecDepth 1000000 in
set_option maxHeartbeats 2000000 in
theorem lognew_impl (w : World) (hG : Glob w) :
  Calls Tryz.prog 60 #[] w fun e w' => ∃ v', e = .returned (.agg #[v', .int .i64 (headOf []).n, .string (headOf []).r]) ∧ Own w' w.heap.size w'.heap.size 9 v' (ss []) ∧ Below w.heap.size w w' := by
 have HG : Hid (Glob w) := hG
 clear hG
 have B0 : Hid (Below w.heap.size w w) := Below.refl _ _
 obtain ⟨W1, HW1, b1, y1, hS1, r_res1⟩ := Ke.l1 w #[.slice none 0 0, .int .i64 0, .string ⟨#[]⟩] 28
 have z1 := b1.size
 have B1 := Ke.b B0 b1
 have q : ∀ W, Glob W → _ := fun W h0 => logof_impl W (.slice none 0 0) [] h0 (Sl.nil W) (Nat.zero_le _) (fun s hs => by cases hs)
 obtain ⟨M, hM⟩ : ∃ M, headOf [] = M := ⟨_, rfl⟩
 simp only [hM] at q
 rw [hM]
 clear hM
 go_enter Tryz.func60, Tryz.ntmps60
 go_wp2_with fail
 rw [HW1.out]
 refine (q W1 (HG.out.later B1.out)).mono ?_
 rintro e W2 ⟨rfl, b2⟩
 have z2 := b2.size
 have B2 := Ke.b B1 b2
 have r_res2 := Ke.r r_res1 b2
 clear r_res1
 go_wp2_with (refine wpList_store_row rfl 28 _ _ rfl (w.heap.size) (lc (.slice none 0 0) M) rfl rfl 28 _ r_res2.out (sizeL _ _) rfl (oneL _ rfl) ?_)
 refine bodyPost_ret (v := .agg (lc (.slice none 0 0) M)) (results_cell_row rfl _ _ (w.heap.size) 28 _ (0, 0) _ rfl (setRow_heap _ _ _ _ _ (0, 0) r_res2.out) Tryz.underlying28 rfl (sizeL _ _)) rfl ⟨.slice none 0 0, rfl, Own.none9 _ _ _, below_setRow B2.out (by omega) _⟩
set_option maxRecDepth 1000000 in
set_option maxHeartbeats 4000000 in
theorem ownlog_impl (w : World) (v : Value) (l : List ByteArray) (h : Hd) (hs : Sl w v (ss l)) (hl : l.length ≤ 1000000000) (hz : ∀ s ∈ l, s.size ≤ 1000000000000) (hh : h.r.size ≤ 1000000000000) :
  Calls Tryz.prog 102 #[.agg #[v, .int .i64 h.n, .string h.r]] w fun e w' => ∃ v', e = .returned (.agg #[v', .int .i64 h.n, .string h.r]) ∧ Own w' w.heap.size w'.heap.size 9 v' (ss l) ∧ Below w.heap.size w w' := by
 have HS : Hid (Sl w v (ss l)) := hs
 obtain ⟨ao, cap, rfl, hcap⟩ := hs.form
 rw [ss_len] at *
 clear hs
 have B0 : Hid (Below w.heap.size w w) := Below.refl _ _
 obtain ⟨W1, HW1, b1, y1, hS1, r_a1, r_res1⟩ := Ke.l2 w #[.slice ao l.length cap, .int .i64 h.n, .string h.r] 28 #[.slice none 0 0, .int .i64 0, .string ⟨#[]⟩] 28
 have z1 := b1.size
 have B1 := Ke.b B0 b1
 have c_a1 := Ke.c r_a1
 have q1 : ∀ W v1, Sl W v1 (ss l) → _ := fun W v1 h1 => Ed.texts_impl W v1 l h1 hl hz
 have q2 : ∀ W, _ := fun W => own_impl W h hh
 clear hz
 go_enter Tryz.func102, Tryz.ntmps102
 go_wp2_with fail
 rw [HW1.out]
 refine wp_region_held_drew (S := fun w' => w'.cell? ⟨w.heap.size, 0, none⟩ = some (.slice ao l.length cap) ∧ w'.cell? ⟨w.heap.size, 1, none⟩ = some (.int .i64 h.n) ∧ w'.cell? ⟨w.heap.size, 2, none⟩ = some (.string h.r)) (by kernel_rfl) ⟨(c_a1 0), (c_a1 1), (c_a1 2)⟩ (fun hHeld => ?_)
 refine Ke.y 0 rfl (fun _ _ _ h => h) ?_
 try simp only [Act.put, pu1, pu2, pu3, pu4, pu5, pu6]
 refine Ke.y 1 rfl (fun _ _ _ h => h) ?_
 try simp only [Act.put, pu1, pu2, pu3, pu4, pu5, pu6]
 refine Ke.y 3 rfl (fun _ _ _ h => h) ?_
 try simp only [Act.put, pu1, pu2, pu3, pu4, pu5, pu6]
 refine Ke.y 4 rfl (fun _ _ _ h => h) ?_
 try simp only [Act.put, pu1, pu2, pu3, pu4, pu5, pu6]
 refine Ke.z 2 rfl (fun K hK => ?_)
 go_simp
 refine (q1 W1.drew _ (Sl.later (w := W1) (HS.out.later B1.out) (Below.drew (Below.refl _ _)))).mono ?_
 rintro e W2 ⟨v_s, rfl, o_s2, b2⟩
 have b2 : Below W1.heap.size W1 W2 := (Below.drew (Below.refl _ _)).trans b2
 refine hK.out _ _ ⟨(keepR (W := W1) hHeld.1 b2), (keepR (W := W1) hHeld.2.1 b2), (keepR (W := W1) hHeld.2.2 b2)⟩ (fun hHeld => ?_)
 clear hK K
 try simp only [Act.put, pu1, pu2, pu3, pu4, pu5, pu6]
 have o_s2 : Own W2 W1.heap.size W2.heap.size 9 _ _ := o_s2
 obtain ⟨ao_s, L_s, cap_s, rfl, hL_s, hM_s⟩ := o_s2.form
 have o_s2 : Hid (Own W2 W1.heap.size W2.heap.size 9 (.slice ao_s L_s cap_s) (ss l)) := o_s2
 clear hL_s hM_s
 have z2 := b2.size
 have B2 := Ke.b B1 b2
 have r_res2 := Ke.r r_res1 b2
 clear r_a1 c_a1 r_res1
 refine Ke.z 5 rfl (fun K hK => ?_)
 go_simp
 refine (q2 W2).mono ?_
 rintro e W3 ⟨rfl, b3⟩
 refine hK.out _ _ ⟨(keepR (W := W2) hHeld.1 b3), (keepR (W := W2) hHeld.2.1 b3), (keepR (W := W2) hHeld.2.2 b3)⟩ (fun hHeld => ?_)
 clear hK K
 try simp only [Act.put, pu1, pu2, pu3, pu4, pu5, pu6]
 have z3 := b3.size
 have B3 := Ke.b B2 b3
 have r_res3 := Ke.r r_res2 b3
 have o_s3 := Ke.o o_s2 b3
 clear r_res2 o_s2
 refine Ke.y 6 rfl (fun _ _ _ h => h) ?_
 try simp only [Act.put, pu1, pu2, pu3, pu4, pu5, pu6]
 refine Ke.z 7 rfl (fun K hK => ?_)
 rw [if_pos (by rfl)]
 refine wp_store_row 28 _ _ rfl (w.heap.size + 1) (lc (.slice ao_s L_s cap_s) h) rfl rfl 28 _ r_res3.out (sizeL _ _) rfl (oneL _ rfl) ?_
 refine hK.out _ _ ⟨(cell_row (by show w.heap.size ≠ w.heap.size + 1; omega) hHeld.1), (cell_row (by show w.heap.size ≠ w.heap.size + 1; omega) hHeld.2.1), (cell_row (by show w.heap.size ≠ w.heap.size + 1; omega) hHeld.2.2)⟩ (fun hHeld => ?_)
 clear hK K
 refine wpAnyH_done (by kernel_rfl) ?_ _
 clear hHeld
 go_wp2
 refine bodyPost_ret (v := .agg (lc (.slice ao_s L_s cap_s) h)) (results_cell_row rfl _ _ (w.heap.size + 1) 28 _ (0, 0) _ rfl (setRow_heap _ _ _ _ _ (0, 0) r_res3.out) Tryz.underlying28 rfl (sizeL _ _)) rfl ⟨.slice ao_s L_s cap_s, rfl, (Own.setRow o_s3.out _ (by omega)).mono (by omega) (by rw [size_setRow]; omega), below_setRow B3.out (by omega) _⟩
end Go.Proofs.YtchonoonclllbaaGreatDoor.Lg
namespace Go.Proofs.YtchonoonclllbaaGreatDoor.Sr
open Go.RowKit Go.Proofs.YtchonoonclllbaaGreatDoor.Mem Go.Proofs.YtchonoonclllbaaGreatDoor.Laws Go.Proofs.YtchonoonclllbaaGreatDoor.Bytes Go.Proofs.YtchonoonclllbaaGreatDoor.Sha Go.Proofs.YtchonoonclllbaaGreatDoor.Tr Go.Proofs.YtchonoonclllbaaGreatDoor.He Go.Proofs.YtchonoonclllbaaGreatDoor.Lg
set_option linter.unusedVariables false
set_option linter.unusedSimpArgs false
theorem none5G (w : World) (lo hi : Nat) : Own w lo hi 5 (.slice none 0 0) (bs []) := ⟨⟨rfl, Or.inl ⟨rfl, rfl⟩⟩, fun g hg => by simp [Value.ownBlock] at hg⟩
set_option maxRecDepth 1000000 in
set_option maxHeartbeats 4000000 in
theorem storenew_impl (w : World) (hG : Glob w) : Calls Tryz.prog 19 #[] w fun e w' => ∃ v' vb', e = .returned (.agg #[v', .int .i64 (headOf []).n, .string (headOf []).r, vb', .int .i64 0]) ∧ Own w' w.heap.size w'.heap.size 9 v' (ss []) ∧ Own w' w.heap.size w'.heap.size 5 vb' (bs []) ∧ Below w.heap.size w w' := by
 have HG : Hid (Glob w) := hG
 clear hG
 have B0 : Hid (Below w.heap.size w w) := Below.refl _ _
 obtain ⟨W1, HW1, b1, y1, hS1, r_res1⟩ := Ke.l1 w #[.slice none 0 0, .int .i64 0, .string ⟨#[]⟩, .slice none 0 0, .int .i64 0] 30
 have z1 := b1.size
 have B1 := Ke.b B0 b1
 obtain ⟨M, hM⟩ : ∃ M, headOf [] = M := ⟨_, rfl⟩
 have q : ∀ W, Glob W → _ := fun W h0 => lognew_impl W h0
 simp only [hM] at q
 rw [hM]
 clear hM
 go_enter Tryz.func19, Tryz.ntmps19
 go_wp2_with fail
 rw [HW1.out]
 refine (q W1 (HG.out.later B1.out)).mono ?_
 rintro e W2 ⟨v_s, rfl, o_s2, b2⟩
 obtain ⟨ao_s, L_s, cap_s, rfl, hL_s, hM_s⟩ := o_s2.form
 have o_s2 : Hid (Own W2 W1.heap.size W2.heap.size 9 (.slice ao_s L_s cap_s) (ss [])) := o_s2
 clear hL_s hM_s
 have z2 := b2.size
 have B2 := Ke.b B1 b2
 have r_res2 := Ke.r r_res1 b2
 clear r_res1
 go_wp2_with (refine wpList_store_row rfl 30 _ _ rfl (w.heap.size) (sc (.slice ao_s L_s cap_s) M (.slice none 0 0) 0) rfl rfl 30 _ r_res2.out (sizeS _ _ _ _) rfl (oneS _ _ rfl rfl) ?_)
 refine bodyPost_ret (v := .agg (sc (.slice ao_s L_s cap_s) M (.slice none 0 0) 0)) (results_cell_row rfl _ _ (w.heap.size) 30 _ (0, 0) _ rfl (setRow_heap _ _ _ _ _ (0, 0) r_res2.out) Tryz.underlying30 rfl (sizeS _ _ _ _)) rfl ⟨_, _, rfl, (Own.setRow o_s2.out _ (by omega)).mono (by omega) (by rw [size_setRow]; omega), none5G _ _ _, below_setRow B2.out (by omega) _⟩
set_option maxRecDepth 1000000 in
set_option maxHeartbeats 4000000 in
theorem ownstore_impl (w : World) (v vb : Value) (st : Sto) (hs : Sl w v (ss st.l)) (hb : Sl w vb (bs st.b)) (hl : st.l.length ≤ 1000000000) (hbl : st.b.length ≤ 1000000000) (hz : ∀ s ∈ st.l, s.size ≤ 1000000000000) (hh : st.h.r.size ≤ 1000000000000) :
  Calls Tryz.prog 58 #[.agg #[v, .int .i64 st.h.n, .string st.h.r, vb, .int .i64 st.s]] w fun e w' => ∃ v' vb', e = .returned (.agg #[v', .int .i64 st.h.n, .string st.h.r, vb', .int .i64 st.s]) ∧ Own w' w.heap.size w'.heap.size 9 v' (ss st.l) ∧ Own w' w.heap.size w'.heap.size 5 vb' (bs st.b) ∧ Below w.heap.size w w' := by
 obtain ⟨l, h, b, s⟩ := st
 simp only at *
 have HS : Hid (Sl w v (ss l)) := hs
 have HSB : Hid (Sl w vb (bs b)) := hb
 obtain ⟨ao0, cap0, rfl, hc0⟩ := hs.form
 obtain ⟨ao1, cap1, rfl, hc1⟩ := hb.form
 simp only [ss_len, bs_len] at *
 clear hs hb
 have B0 : Hid (Below w.heap.size w w) := Below.refl _ _
 obtain ⟨W1, HW1, b1, y1, hS1, r_a1, r_res1⟩ := Ke.l2 w #[.slice ao0 l.length cap0, .int .i64 h.n, .string h.r, .slice ao1 b.length cap1, .int .i64 s] 30 #[.slice none 0 0, .int .i64 0, .string ⟨#[]⟩, .slice none 0 0, .int .i64 0] 30
 have z1 := b1.size
 have B1 := Ke.b B0 b1
 have c_a1 := Ke.c r_a1
 have q1 : ∀ W v1, Sl W v1 (ss l) → _ := fun W v1 h1 => ownlog_impl W v1 l h h1 hl hz hh
 have q2 : ∀ W v1, Sl W v1 (bs b) → _ := fun W v1 h1 => Puts.own_any W v1 b h1 (by omega)
 clear hz
 go_enter Tryz.func58, Tryz.ntmps58
 go_wp2_with fail
 rw [HW1.out]
 refine wp_region_held_drew (S := fun w' => w'.cell? ⟨w.heap.size, 0, none⟩ = some (.slice ao0 l.length cap0) ∧ w'.cell? ⟨w.heap.size, 1, none⟩ = some (.int .i64 h.n) ∧ w'.cell? ⟨w.heap.size, 2, none⟩ = some (.string h.r) ∧ w'.cell? ⟨w.heap.size, 3, none⟩ = some (.slice ao1 b.length cap1) ∧ w'.cell? ⟨w.heap.size, 4, none⟩ = some (.int .i64 s)) (by kernel_rfl) ⟨(c_a1 0), (c_a1 1), (c_a1 2), (c_a1 3), (c_a1 4)⟩ (fun hHeld => ?_)
 refine Ke.y 0 rfl (fun _ _ _ h => h) ?_
 try simp only [Act.put, pu1, pu2, pu3, pu4, pu5, pu6]
 refine Ke.y 1 rfl (fun _ _ _ h => h) ?_
 try simp only [Act.put, pu1, pu2, pu3, pu4, pu5, pu6]
 refine Ke.y 3 rfl (fun _ _ _ h => h) ?_
 try simp only [Act.put, pu1, pu2, pu3, pu4, pu5, pu6]
 refine Ke.y 4 rfl (fun _ _ _ h => h) ?_
 try simp only [Act.put, pu1, pu2, pu3, pu4, pu5, pu6]
 refine Ke.y 6 rfl (fun _ _ _ h => h) ?_
 try simp only [Act.put, pu1, pu2, pu3, pu4, pu5, pu6]
 refine Ke.y 7 rfl (fun _ _ _ h => h) ?_
 try simp only [Act.put, pu1, pu2, pu3, pu4, pu5, pu6]
 refine Ke.z 2 rfl (fun K hK => ?_)
 go_simp
 refine (q1 W1.drew _ (Sl.later (w := W1) (HS.out.later B1.out) (Below.drew (Below.refl _ _)))).mono ?_
 rintro e W2 ⟨v_s, rfl, o_s2, b2⟩
 have b2 : Below W1.heap.size W1 W2 := (Below.drew (Below.refl _ _)).trans b2
 refine hK.out _ _ ⟨(keepR (W := W1) hHeld.1 b2), (keepR (W := W1) hHeld.2.1 b2), (keepR (W := W1) hHeld.2.2.1 b2), (keepR (W := W1) hHeld.2.2.2.1 b2), (keepR (W := W1) hHeld.2.2.2.2 b2)⟩ (fun hHeld => ?_)
 clear hK K
 try simp only [Act.put, pu1, pu2, pu3, pu4, pu5, pu6]
 have o_s2 : Own W2 W1.heap.size W2.heap.size 9 _ _ := o_s2
 obtain ⟨ao_s, L_s, cap_s, rfl, hL_s, hM_s⟩ := o_s2.form
 have o_s2 : Hid (Own W2 W1.heap.size W2.heap.size 9 (.slice ao_s L_s cap_s) (ss l)) := o_s2
 clear hL_s hM_s
 have z2 := b2.size
 have B2 := Ke.b B1 b2
 have r_res2 := Ke.r r_res1 b2
 clear r_a1 c_a1 r_res1
 refine Ke.z 5 rfl (fun K hK => ?_)
 go_simp
 refine (q2 W2 _ (HSB.out.later B2.out)).mono ?_
 rintro e W3 ⟨v_p, rfl, o_p3, b3⟩
 refine hK.out _ _ ⟨(keepR (W := W2) hHeld.1 b3), (keepR (W := W2) hHeld.2.1 b3), (keepR (W := W2) hHeld.2.2.1 b3), (keepR (W := W2) hHeld.2.2.2.1 b3), (keepR (W := W2) hHeld.2.2.2.2 b3)⟩ (fun hHeld => ?_)
 clear hK K
 try simp only [Act.put, pu1, pu2, pu3, pu4, pu5, pu6]
 obtain ⟨ao_p, L_p, cap_p, rfl, hL_p, hM_p⟩ := o_p3.form
 have o_p3 : Hid (Own W3 W2.heap.size W3.heap.size 5 (.slice ao_p L_p cap_p) (bs b)) := o_p3
 clear hL_p hM_p
 have z3 := b3.size
 have B3 := Ke.b B2 b3
 have r_res3 := Ke.r r_res2 b3
 have o_s3 := Ke.o o_s2 b3
 clear r_res2 o_s2
 refine Ke.y 8 rfl (fun _ _ _ h => h) ?_
 try simp only [Act.put, pu1, pu2, pu3, pu4, pu5, pu6]
 refine Ke.z 9 rfl (fun K hK => ?_)
 rw [if_pos (by rfl)]
 refine wp_store_row 30 _ _ rfl (w.heap.size + 1) (sc (.slice ao_s L_s cap_s) h (.slice ao_p L_p cap_p) s) rfl rfl 30 _ r_res3.out (sizeS _ _ _ _) rfl (oneS _ _ rfl rfl) ?_
 refine hK.out _ _ ⟨(cell_row (by show w.heap.size ≠ w.heap.size + 1; omega) hHeld.1), (cell_row (by show w.heap.size ≠ w.heap.size + 1; omega) hHeld.2.1), (cell_row (by show w.heap.size ≠ w.heap.size + 1; omega) hHeld.2.2.1), (cell_row (by show w.heap.size ≠ w.heap.size + 1; omega) hHeld.2.2.2.1), (cell_row (by show w.heap.size ≠ w.heap.size + 1; omega) hHeld.2.2.2.2)⟩ (fun hHeld => ?_)
 clear hK K
 refine wpAnyH_done (by kernel_rfl) ?_ _
 clear hHeld
 go_wp2
 refine bodyPost_ret (v := .agg (sc (.slice ao_s L_s cap_s) h (.slice ao_p L_p cap_p) s)) (results_cell_row rfl _ _ (w.heap.size + 1) 30 _ (0, 0) _ rfl (setRow_heap _ _ _ _ _ (0, 0) r_res3.out) Tryz.underlying30 rfl (sizeS _ _ _ _)) rfl ⟨.slice ao_s L_s cap_s, .slice ao_p L_p cap_p, rfl, (Own.setRow o_s3.out _ (by omega)).mono (by omega) (by rw [size_setRow]; omega), (Own.setRow o_p3.out _ (by omega)).mono (by omega) (by rw [size_setRow]; omega), below_setRow B3.out (by omega) _⟩
set_option maxRecDepth 1000000 in
set_option maxHeartbeats 4000000 in
theorem storeok_impl (w : World) (v vb : Value) (st : Sto) (hG : Glob w) (hN : NoC w) (hs : Sl w v (ss st.l)) (hb : Sl w vb (bs st.b)) (hby : Byt st.b) (hl : st.l.length ≤ 1000000000) (hbl : st.b.length ≤ 1000000000) (hz : ∀ s ∈ st.l, s.size ≤ 10000000000) :
  Calls Tryz.prog 26 #[.agg #[v, .int .i64 st.h.n, .string st.h.r, vb, .int .i64 st.s]] w fun e w' => e = .returned (.bool (storeOk st)) ∧ Below w.heap.size w w' := by
 obtain ⟨R, hR⟩ : ∃ R, storeOk st = R := ⟨_, rfl⟩
 have HR : Hid (storeOk st = R) := hR
 have HG : Hid (Glob w) := hG
 have HNC : Hid (NoC w) := hN
 rw [hR]
 obtain ⟨l, h, b, s⟩ := st
 simp only at *
 have HS : Hid (Sl w v (ss l)) := hs
 have HSB : Hid (Sl w vb (bs b)) := hb
 have HBY : Hid (Byt b) := hby
 obtain ⟨ao0, cap0, rfl, hc0⟩ := hs.form
 obtain ⟨ao1, cap1, rfl, hc1⟩ := hb.form
 simp only [ss_len, bs_len] at *
 clear hs hb hby hR hG hN
 have B0 : Hid (Below w.heap.size w w) := Below.refl _ _
 obtain ⟨W1, HW1, b1, y1, hS1, r_a1⟩ := Ke.l1 w #[.slice ao0 l.length cap0, .int .i64 h.n, .string h.r, .slice ao1 b.length cap1, .int .i64 s] 30
 have z1 := b1.size
 have B1 := Ke.b B0 b1
 have q1 : ∀ W v1, Glob W → Sl W v1 (ss l) → _ := fun W v1 h0 h1 => logok_impl W v1 l h h0 h1 (by omega) hz
 have HLG : Hid (logOk l h = true → l.length ≤ 200) := fun q => (logOk_yes q).1
 obtain ⟨A, hA⟩ : ∃ A, logOk l h = A := ⟨_, rfl⟩
 simp only [hA] at q1
 have HA : Hid (logOk l h = A) := hA
 clear hA hz
 by_cases h6 : (60000 : Int) < (b.length : Int)
 ·
  have d6 : decide ((60000 : Int) < (b.length : Int)) = true := decide_eq_true h6
  have HO : Hid (R = false) := by
   show _ = _
   rw [← HR.out]
   exact storeOk_no _ (fun q => by have h1 := q.2.1; have h2 := q.2.2.1; have h3 := q.2.2.2; simp only at h1 h2 h3; omega)
  go_enter Tryz.func26, Tryz.ntmps26
  go_wp2
  go_ret
  exact ⟨by rw [HO.out]; rfl, by rw [HW1.out]; exact B1.out⟩
 ·
  have d6 : decide ((60000 : Int) < (b.length : Int)) = false := decide_eq_false h6
  by_cases h7 : s < 0
  ·
   have d7 : decide (s < 0) = true := decide_eq_true h7
   have HO : Hid (R = false) := by
    show _ = _
    rw [← HR.out]
    exact storeOk_no _ (fun q => by have h1 := q.2.1; have h2 := q.2.2.1; have h3 := q.2.2.2; simp only at h1 h2 h3; omega)
   go_enter Tryz.func26, Tryz.ntmps26
   go_wp2
   go_ret
   exact ⟨by rw [HO.out]; rfl, by rw [HW1.out]; exact B1.out⟩
  ·
   have d7 : decide (s < 0) = false := decide_eq_false h7
   by_cases h8 : (b.length : Int) < s
   ·
    have d8 : decide ((b.length : Int) < s) = true := decide_eq_true h8
    have HO : Hid (R = false) := by
     show _ = _
     rw [← HR.out]
     exact storeOk_no _ (fun q => by have h1 := q.2.1; have h2 := q.2.2.1; have h3 := q.2.2.2; simp only at h1 h2 h3; omega)
    go_enter Tryz.func26, Tryz.ntmps26
    go_wp2
    go_ret
    exact ⟨by rw [HO.out]; rfl, by rw [HW1.out]; exact B1.out⟩
   ·
    have d8 : decide ((b.length : Int) < s) = false := decide_eq_false h8
    go_enter Tryz.func26, Tryz.ntmps26
    go_wp2_with fail
    rw [HW1.out]
    refine (q1 W1 _ (HG.out.later B1.out) (HS.out.later B1.out)).mono ?_
    rintro e W2 ⟨rfl, b2⟩
    have z2 := b2.size
    have B2 := Ke.b B1 b2
    have r_a2 := Ke.r r_a1 b2
    have c_a2 := Ke.c r_a2
    clear r_a1
    clear q1
    cases A
    ·
     have HO : Hid (R = false) := by
      show _ = _
      rw [← HR.out]
      exact storeOk_no _ (fun q => by have h1 := q.1; simp only at h1; rw [HA.out] at h1; cases h1)
     go_wp2
     go_ret
     exact ⟨by rw [HO.out]; rfl, B2.out⟩
    ·
     have h2 := HLG.out HA.out
     have HO : Hid (fin12 b l b.length 0 [] (headOf []) = R) := by
      show _ = _
      rw [← HR.out]
      exact (storeOk_fin ⟨l, h, b, s⟩ HA.out (by simp only; omega) (by simp only; omega)).symm
     have q3 := make_impl W2 _ _ b l (HG.out.later B2.out) (HNC.out.later B2.out) (HSB.out.later B2.out) HBY.out (by omega) (HS.out.later B2.out) h2
     rw [HO.out] at q3
     go_wp2_with fail
     refine (q3).mono ?_
     rintro e W3 ⟨rfl, b3⟩
     have z3 := b3.size
     have B3 := Ke.b B2 b3
     clear r_a2 c_a2
     go_wp2
     go_ret
     exact ⟨by cases R <;> rfl, B3.out⟩
set_option maxRecDepth 1000000 in
set_option maxHeartbeats 4000000 in
theorem makesure_impl (w : World) (v vb : Value) (st : Sto) (hG : Glob w) (hN : NoC w) (hs : Sl w v (ss st.l)) (hb : Sl w vb (bs st.b)) (hby : Byt st.b) (hl : st.l.length ≤ 1000000000) (hbl : st.b.length ≤ 1000000000) (hz : ∀ s ∈ st.l, s.size ≤ 10000000000) (hh : st.h.r.size ≤ 1000000000000) :
  Calls Tryz.prog 68 #[.agg #[v, .int .i64 st.h.n, .string st.h.r, vb, .int .i64 st.s]] w fun e w' => ∃ v' vb', e = .returned (.agg #[v', .int .i64 (makeSure st).h.n, .string (makeSure st).h.r, vb', .int .i64 (makeSure st).s]) ∧ Own w' w.heap.size w'.heap.size 9 v' (ss (makeSure st).l) ∧ Own w' w.heap.size w'.heap.size 5 vb' (bs (makeSure st).b) ∧ Below w.heap.size w w' := by
 obtain ⟨R, hR⟩ : ∃ R, makeSure st = R := ⟨_, rfl⟩
 have HR : Hid (makeSure st = R) := hR
 have HG : Hid (Glob w) := hG
 have HNC : Hid (NoC w) := hN
 rw [hR]
 obtain ⟨l, h, b, s⟩ := st
 simp only at *
 have HS : Hid (Sl w v (ss l)) := hs
 have HSB : Hid (Sl w vb (bs b)) := hb
 have HBY : Hid (Byt b) := hby
 obtain ⟨ao0, cap0, rfl, hc0⟩ := hs.form
 obtain ⟨ao1, cap1, rfl, hc1⟩ := hb.form
 simp only [ss_len, bs_len] at *
 clear hs hb hby hR hG hN
 have B0 : Hid (Below w.heap.size w w) := Below.refl _ _
 obtain ⟨W1, HW1, b1, y1, hS1, r_a1, r_res1⟩ := Ke.l2 w #[.slice ao0 l.length cap0, .int .i64 h.n, .string h.r, .slice ao1 b.length cap1, .int .i64 s] 30 #[.slice none 0 0, .int .i64 0, .string ⟨#[]⟩, .slice none 0 0, .int .i64 0] 30
 have z1 := b1.size
 have B1 := Ke.b B0 b1
 have q1 : ∀ W v1 v2, Sl W v1 (ss l) → Sl W v2 (bs b) → _ := fun W v1 v2 h1 h2 => ownstore_impl W v1 v2 ⟨l, h, b, s⟩ h1 h2 hl hbl (fun s hs => Nat.le_trans (hz s hs) (by omega)) hh
 have q2 : ∀ W v1 v2, Glob W → NoC W → Sl W v1 (ss l) → Sl W v2 (bs b) → _ := fun W v1 v2 g0 g1 h1 h2 => storeok_impl W v1 v2 ⟨l, h, b, s⟩ g0 g1 h1 h2 HBY.out hl hbl hz
 simp only at q1 q2
 obtain ⟨A, hA⟩ : ∃ A, storeOk ⟨l, h, b, s⟩ = A := ⟨_, rfl⟩
 simp only [hA] at q2
 have HA : Hid (storeOk ⟨l, h, b, s⟩ = A) := hA
 clear hA hz
 go_enter Tryz.func68, Tryz.ntmps68
 go_wp2_with fail
 rw [HW1.out]
 refine (q1 W1 _ _ (HS.out.later B1.out) (HSB.out.later B1.out)).mono ?_
 rintro e W2 ⟨v_s, v_p, rfl, o_s2, o_p2, b2⟩
 obtain ⟨ao_s, L_s, cap_s, rfl, hL_s, hM_s⟩ := o_s2.form
 have o_s2 : Hid (Own W2 W1.heap.size W2.heap.size 9 (.slice ao_s L_s cap_s) (ss l)) := o_s2
 clear hL_s hM_s
 have z2 := b2.size
 have B2 := Ke.b B1 b2
 have r_a2 := Ke.r r_a1 b2
 have r_res2 := Ke.r r_res1 b2
 have c_a2 := Ke.c r_a2
 clear r_a1 r_res1
 obtain ⟨ao_p, L_p, cap_p, rfl, hp1, hp2⟩ := o_p2.form
 rw [bs_len] at hp1 hp2
 have o_p2 : Hid (Own W2 W1.heap.size W2.heap.size 5 (.slice ao_p L_p cap_p) (bs b)) := o_p2
 have a_a2 := Ke.a r_a2
 obtain ⟨W3, HW3, b3, y3, hS3, r_out3⟩ := Ke.l1 W2 #[.slice ao_s L_s cap_s, .int .i64 h.n, .string h.r, .slice ao_p L_p cap_p, .int .i64 s] 30
 have z3 := b3.size
 have B3 := Ke.b B2 b3
 have r_res3 := Ke.r r_res2 b3
 have o_s3 := Ke.o o_s2 b3
 have o_p3 := Ke.o o_p2 b3
 clear r_a2 c_a2 r_res2 o_s2 o_p2
 go_wp2_with fail
 rw [HW3.out]
 clear a_a2
 refine (q2 W3 _ _ (HG.out.later B3.out) (HNC.out.later B3.out) (HS.out.later B3.out) (HSB.out.later B3.out)).mono ?_
 rintro e W4 ⟨rfl, b4⟩
 have z4 := b4.size
 have B4 := Ke.b B3 b4
 have r_res4 := Ke.r r_res3 b4
 have r_out4 := Ke.r r_out3 b4
 have o_s4 := Ke.o o_s3 b4
 have o_p4 := Ke.o o_p3 b4
 have c_out4 := Ke.c r_out4
 clear r_res3 r_out3 o_s3 o_p3
 cases A
 ·
  have HN : Hid (R = ⟨l, h, b, s⟩) := by show _ = _; rw [← HR.out]; unfold makeSure; rw [HA.out]; simp
  go_wp2_with (first | (refine wpList_load_row rfl 30 _ rfl (W2.heap.size) rfl 30 (sc (.slice ao_s L_s cap_s) h (.slice ao_p L_p cap_p) s) (0, 0) _ r_out4.out Tryz.underlying30 rfl (sizeS _ _ _ _) ?_) | (refine wpList_store_row rfl 30 _ _ rfl (w.heap.size + 1) (sc (.slice ao_s L_s cap_s) h (.slice ao_p L_p cap_p) s) rfl rfl 30 _ r_res4.out (sizeS _ _ _ _) rfl (oneS _ _ rfl rfl) ?_))
  refine bodyPost_ret (v := .agg (sc (.slice ao_s L_s cap_s) h (.slice ao_p L_p cap_p) s)) (results_cell_row rfl _ _ (w.heap.size + 1) 30 _ (0, 0) _ rfl (setRow_heap _ _ _ _ _ (0, 0) r_res4.out) Tryz.underlying30 rfl (sizeS _ _ _ _)) rfl ⟨.slice ao_s L_s cap_s, .slice ao_p L_p cap_p, by rw [HN.out]; rfl, ?_, ?_, below_setRow B4.out (by omega) _⟩
  ·
   rw [HN.out]
   exact (Own.setRow o_s4.out _ (by omega)).mono (by omega) (by rw [size_setRow]; omega)
  ·
   rw [HN.out]
   exact (Own.setRow o_p4.out _ (by omega)).mono (by omega) (by rw [size_setRow]; omega)
 ·
  have HN : Hid (R = ⟨l, h, b, (L_p : Int)⟩) := by show _ = _; rw [← HR.out]; unfold makeSure; rw [HA.out, if_pos rfl, show L_p = b.length by omega]
  go_wp2_with (refine wpl_oneG rfl 3 _ _ rfl (W2.heap.size) 4 (.int .i64 (L_p : Int)) rfl rfl [.slice ao_s L_s cap_s, .int .i64 h.n, .string h.r, .slice ao_p L_p cap_p, .int .i64 s] 30 r_out4.out (Nat.le_of_ble_eq_true rfl) (by kernel_rfl) rfl [.slice ao_s L_s cap_s, .int .i64 h.n, .string h.r, .slice ao_p L_p cap_p, .int .i64 (L_p : Int)] rfl ?_)
  intro W5 r_out5 g5
  have r_out5 := Ke.h r_out5
  have z5 := g5.size
  have B5 : Hid (Below w.heap.size w W5) := belowGro B4.out g5 B4.out.size (fun k9 h9 => by injection h9 with h9; have := B4.out.size; omega)
  have r_res5 := Ke.s r_res4 g5
  have o_s5 := Ke.t o_s4 r_out4 g5
  have o_p5 := Ke.t o_p4 r_out4 g5
  clear r_res4 o_s4 o_p4
  clear r_out4 c_out4
  clear g5
  go_wp2_with (first | (refine wpList_load_row rfl 30 _ rfl (W2.heap.size) rfl 30 (sc (.slice ao_s L_s cap_s) h (.slice ao_p L_p cap_p) (L_p : Int)) (0, 0) _ r_out5.out Tryz.underlying30 rfl (sizeS _ _ _ _) ?_) | (refine wpList_store_row rfl 30 _ _ rfl (w.heap.size + 1) (sc (.slice ao_s L_s cap_s) h (.slice ao_p L_p cap_p) (L_p : Int)) rfl rfl 30 _ r_res5.out (sizeS _ _ _ _) rfl (oneS _ _ rfl rfl) ?_))
  refine bodyPost_ret (v := .agg (sc (.slice ao_s L_s cap_s) h (.slice ao_p L_p cap_p) (L_p : Int))) (results_cell_row rfl _ _ (w.heap.size + 1) 30 _ (0, 0) _ rfl (setRow_heap _ _ _ _ _ (0, 0) r_res5.out) Tryz.underlying30 rfl (sizeS _ _ _ _)) rfl ⟨.slice ao_s L_s cap_s, .slice ao_p L_p cap_p, by rw [HN.out]; rfl, ?_, ?_, below_setRow B5.out (by omega) _⟩
  ·
   rw [HN.out]
   exact (Own.setRow o_s5.out _ (by omega)).mono (by omega) (by rw [size_setRow]; omega)
  ·
   rw [HN.out]
   exact (Own.setRow o_p5.out _ (by omega)).mono (by omega) (by rw [size_setRow]; omega)
end Go.Proofs.YtchonoonclllbaaGreatDoor.Sr
namespace Go.Proofs.YtchonoonclllbaaGreatDoor.He
open Go.RowKit Go.Proofs.YtchonoonclllbaaGreatDoor.Mem Go.Proofs.YtchonoonclllbaaGreatDoor.Laws Go.Proofs.YtchonoonclllbaaGreatDoor.Bytes Go.Proofs.YtchonoonclllbaaGreatDoor.Sha Go.Proofs.YtchonoonclllbaaGreatDoor.Tr
set_option linter.unusedVariables false
set_option linter.unusedSimpArgs false
theorem pk_one {a b : Hd} (h : eqH a b = true) : pk a b = 1 := by unfold pk; rw [if_pos h]
theorem pk_not {a b : Hd} (h : ¬ eqH a b = true) : (pk a b == 1) = false := by
 unfold pk
 rw [if_neg h, beq_eq_false_iff_ne]
 split <;> decide
theorem keepA {W : World} {p : Addr} {x : Value} (h : W.cell? p = some x) (o : Obj) : (W.alloc o).cell? p = some x := keepH h ((Below.refl _ _).alloc (Nat.le_refl _) o)
set_option maxRecDepth 1000000 in
set_option maxHeartbeats 2000000 in
theorem signed_impl (w : World) (v : Value) (t : List Hd) (h : Hd) (hs : Sh w v t) (hx : t.length ≤ 1000000000000) :
  Calls Tryz.prog 97 #[v, .agg #[.int .i64 h.n, .string h.r]] w fun e w' => e = .returned (.bool (signed t h)) ∧ Below w.heap.size w w' := by
 obtain ⟨W, hW, r0, bW, yW⟩ : ∃ W, Hid (w.alloc (.cells #[.int .i64 h.n, .string h.r] 26) = W) ∧ W.heap[w.heap.size]? = some (.cells (hc h) 26 (0, 0)) ∧ Below w.heap.size w W ∧ w.heap.size + 1 ≤ W.heap.size := ⟨_, rfl, heap_alloc_new w _, (Below.refl _ _).alloc (Nat.le_refl _) _, by simp⟩
 have HS : Hid (Sh W v t) := hs.later bW
 have HR : Hid (W.heap[w.heap.size]? = some (.cells (hc h) 26 (0, 0))) := r0
 have HBW : Hid (Below w.heap.size w W) := bW
 obtain ⟨ao, cap, rfl, hcap⟩ := Sh.form hs
 obtain ⟨S, hS⟩ : ∃ S, signed t h = S := ⟨_, rfl⟩
 rw [hS]
 have HSS : Hid (signed t h = S) := hS
 clear hs hS r0 bW
 go_enter Tryz.func97, Tryz.ntmps97
 go_wp2
 rw [hW.out]
 go_loopw [9] (fun i wr => ∃ k : Nat, k ≤ t.length ∧ i = .int .i64 (k : Int) ∧ Hid (signed (t.take k) h = false) ∧ Hid (Below W.heap.size W wr)) (fun i _ => t.length - (intOf i).toNat)
 case atStart => exact ⟨0, Nat.zero_le _, rfl, rfl, Below.refl _ _⟩
 case round =>
  obtain ⟨k, hk, rfl, HK, hB⟩ := hrel
  by_cases hlt : k < t.length
  ·
   obtain ⟨x, hx0⟩ : ∃ x, t[k]? = some x := ⟨t[k], by simp [hlt]⟩
   obtain ⟨b, off, cap', he, _, c0, c1⟩ := Sh.at (HS.out.later hB.out) hx0
   simp only [Value.slice.injEq] at he
   obtain ⟨rfl, _, rfl⟩ := he
   have p0 : wr.cell? ⟨w.heap.size, 0, none⟩ = some (.int .i64 h.n) := row_at (rowKeep HR.out hB.out) 0
   have p1 : wr.cell? ⟨w.heap.size, 1, none⟩ = some (.string h.r) := row_at (rowKeep HR.out hB.out) 1
   have a0 := keepA p0 (.cells #[.int .i64 x.n, .string x.r] 26)
   have a1 := keepA p1 (.cells #[.int .i64 x.n, .string x.r] 26)
   have q : ∀ X, _ := fun X => pair_impl X x h
   have HA : Hid (Below W.heap.size W (wr.alloc (.cells #[.int .i64 x.n, .string x.r] 26))) := hB.out.alloc hB.out.size _
   by_cases hxh : eqH x h = true
   ·
    have HF : Hid (S = true) := by show _ = _; rw [← HSS.out]; exact signed_yes hx0 hxh
    simp only [pk_one hxh] at q
    clear hx0 HK hxh
    go_wp2_with fail
    refine (q _).mono ?_
    rintro e w4 ⟨rfl, b4⟩
    clear a0 a1 p0 p1 c0 c1
    go_wp2
    go_ret
    exact ⟨by rw [HF.out]; rfl, HBW.out.trans ((HA.out.trans (b4.mono HA.out.size)).mono HBW.out.size)⟩
   ·
    have hxf : eqH x h = false := by simpa using hxh
    have HN : Hid (signed (t.take (k + 1)) h = false) := by show _ = _; rw [signed_snoc hx0, HK.out, hxf]; rfl
    have pn := pk_not hxh
    obtain ⟨P, hP⟩ : ∃ P, pk x h = P := ⟨_, rfl⟩
    rw [hP] at pn
    simp only [hP] at q
    clear hx0 HK hxh hxf hP
    go_wp2_with fail
    refine (q _).mono ?_
    rintro e w4 ⟨rfl, b4⟩
    clear a0 a1 p0 p1 c0 c1
    go_wp2
    go_roundw
    case rel => exact ⟨k + 1, by omega, by go_num, HN, HA.out.trans (b4.mono HA.out.size)⟩
    case measure => simp [intOf]; omega
  ·
   have HF : Hid (S = false) := by
    show _ = _
    have h1 := HK.out
    rw [List.take_of_length_le (by omega)] at h1
    rw [← HSS.out, h1]
   clear HK
   go_wp2
   go_ret
   exact ⟨by rw [HF.out]; rfl, HBW.out.trans (hB.out.mono HBW.out.size)⟩
end Go.Proofs.YtchonoonclllbaaGreatDoor.He
namespace Go.Proofs.YtchonoonclllbaaGreatDoor.Wd
open Go.Proofs.YtchonoonclllbaaGreatDoor.Mg
open Go.RowKit Go.Proofs.YtchonoonclllbaaGreatDoor.Mem Go.Proofs.YtchonoonclllbaaGreatDoor.Laws Go.Proofs.YtchonoonclllbaaGreatDoor.Bytes Go.Proofs.YtchonoonclllbaaGreatDoor.Sha Go.Proofs.YtchonoonclllbaaGreatDoor.Tr Go.Proofs.YtchonoonclllbaaGreatDoor.He
set_option linter.unusedVariables false
set_option linter.unusedSimpArgs false
theorem zero_h : (Tryz.prog.info? 123).map (·.zero) = some (some (.agg #[.int .i64 0, .string ⟨#[]⟩])) := by kernel_rfl
theorem zero_a : (Tryz.prog.info? 125).map (·.zero) = some (some (.agg #[.int .i64 0, .string ⟨#[]⟩, .int .i64 0])) := by kernel_rfl
theorem zero_t : (Tryz.prog.info? 127).map (·.zero) = some (some (.agg #[.int .i64 0, .string ⟨#[]⟩, .int .i64 0, .slice none 0 0])) := by kernel_rfl
theorem ta_hh (w : World) (v : Value) : (Instr.typeAssert (.iface 123 v) 86 123 true).run Tryz.prog w = .ok (.tuple #[v, .bool true]) w := by
 simp [Instr.typeAssert, run_underlying Tryz.underlying123, go_sem]
theorem ta_ah (w : World) (v : Value) : (Instr.typeAssert (.iface 125 v) 86 123 true).run Tryz.prog w = .ok (.tuple #[.agg #[.int .i64 0, .string ⟨#[]⟩], .bool false]) w := by
 obtain ⟨i, hi, hz⟩ := Option.map_eq_some_iff.1 zero_h
 simp [Instr.typeAssert, run_underlying Tryz.underlying123, zeroValue, typeInfo, hi, hz, go_sem]
theorem ta_th (w : World) (v : Value) : (Instr.typeAssert (.iface 127 v) 86 123 true).run Tryz.prog w = .ok (.tuple #[.agg #[.int .i64 0, .string ⟨#[]⟩], .bool false]) w := by
 obtain ⟨i, hi, hz⟩ := Option.map_eq_some_iff.1 zero_h
 simp [Instr.typeAssert, run_underlying Tryz.underlying123, zeroValue, typeInfo, hi, hz, go_sem]
theorem ta_aa (w : World) (v : Value) : (Instr.typeAssert (.iface 125 v) 86 125 true).run Tryz.prog w = .ok (.tuple #[v, .bool true]) w := by
 simp [Instr.typeAssert, run_underlying Tryz.underlying125, go_sem]
theorem ta_ha (w : World) (v : Value) : (Instr.typeAssert (.iface 123 v) 86 125 true).run Tryz.prog w = .ok (.tuple #[.agg #[.int .i64 0, .string ⟨#[]⟩, .int .i64 0], .bool false]) w := by
 obtain ⟨i, hi, hz⟩ := Option.map_eq_some_iff.1 zero_a
 simp [Instr.typeAssert, run_underlying Tryz.underlying125, zeroValue, typeInfo, hi, hz, go_sem]
theorem ta_ta (w : World) (v : Value) : (Instr.typeAssert (.iface 127 v) 86 125 true).run Tryz.prog w = .ok (.tuple #[.agg #[.int .i64 0, .string ⟨#[]⟩, .int .i64 0], .bool false]) w := by
 obtain ⟨i, hi, hz⟩ := Option.map_eq_some_iff.1 zero_a
 simp [Instr.typeAssert, run_underlying Tryz.underlying125, zeroValue, typeInfo, hi, hz, go_sem]
theorem ta_tt (w : World) (v : Value) : (Instr.typeAssert (.iface 127 v) 86 127 true).run Tryz.prog w = .ok (.tuple #[v, .bool true]) w := by
 simp [Instr.typeAssert, run_underlying Tryz.underlying127, go_sem]
theorem ta_ht (w : World) (v : Value) : (Instr.typeAssert (.iface 123 v) 86 127 true).run Tryz.prog w = .ok (.tuple #[.agg #[.int .i64 0, .string ⟨#[]⟩, .int .i64 0, .slice none 0 0], .bool false]) w := by
 obtain ⟨i, hi, hz⟩ := Option.map_eq_some_iff.1 zero_t
 simp [Instr.typeAssert, run_underlying Tryz.underlying127, zeroValue, typeInfo, hi, hz, go_sem]
theorem ta_at (w : World) (v : Value) : (Instr.typeAssert (.iface 125 v) 86 127 true).run Tryz.prog w = .ok (.tuple #[.agg #[.int .i64 0, .string ⟨#[]⟩, .int .i64 0, .slice none 0 0], .bool false]) w := by
 obtain ⟨i, hi, hz⟩ := Option.map_eq_some_iff.1 zero_t
 simp [Instr.typeAssert, run_underlying Tryz.underlying127, zeroValue, typeInfo, hi, hz, go_sem]
set_option maxRecDepth 1000000 in
set_option maxHeartbeats 4000000 in
theorem word1 (w : World) (f t : Int) (h : Hd) (ao0 : Option Addr) (cap0 : Nat) :
  Calls Tryz.prog 55 #[.agg #[.int .i64 1, .int .i64 f, .int .i64 t, .int .i64 h.n, .string h.r, .int .i64 0, .slice ao0 0 cap0]] w fun e w' => e = .returned (.iface 123 (.agg #[.int .i64 h.n, .string h.r])) ∧ Below w.heap.size w w' := by
 have B0 : Hid (Below w.heap.size w w) := Below.refl _ _
 obtain ⟨W1, HW1, b1, y1, hS1, r_a1⟩ := Ke.l1 w #[.int .i64 1, .int .i64 f, .int .i64 t, .int .i64 h.n, .string h.r, .int .i64 0, .slice ao0 0 cap0] 35
 have z1 := b1.size
 have B1 := Ke.b B0 b1
 have c_a1 := Ke.c r_a1
 go_enter Tryz.func55, Tryz.ntmps55
 go_wp2
 go_ret
 exact ⟨rfl, by rw [HW1.out]; exact B1.out⟩
set_option maxRecDepth 1000000 in
set_option maxHeartbeats 4000000 in
theorem word2 (w : World) (f t n : Int) (h : Hd) (ao0 : Option Addr) (cap0 : Nat) :
  Calls Tryz.prog 55 #[.agg #[.int .i64 2, .int .i64 f, .int .i64 t, .int .i64 h.n, .string h.r, .int .i64 n, .slice ao0 0 cap0]] w fun e w' => e = .returned (.iface 125 (.agg #[.int .i64 h.n, .string h.r, .int .i64 n])) ∧ Below w.heap.size w w' := by
 have B0 : Hid (Below w.heap.size w w) := Below.refl _ _
 obtain ⟨W1, HW1, b1, y1, hS1, r_a1⟩ := Ke.l1 w #[.int .i64 2, .int .i64 f, .int .i64 t, .int .i64 h.n, .string h.r, .int .i64 n, .slice ao0 0 cap0] 35
 have z1 := b1.size
 have B1 := Ke.b B0 b1
 have c_a1 := Ke.c r_a1
 go_enter Tryz.func55, Tryz.ntmps55
 go_wp2
 go_ret
 exact ⟨rfl, by rw [HW1.out]; exact B1.out⟩
set_option maxRecDepth 1000000 in
set_option maxHeartbeats 4000000 in
theorem word3 (w : World) (f t n : Int) (h : Hd) (ao0 : Option Addr) (L cap0 : Nat) :
  Calls Tryz.prog 55 #[.agg #[.int .i64 3, .int .i64 f, .int .i64 t, .int .i64 h.n, .string h.r, .int .i64 n, .slice ao0 L cap0]] w fun e w' => e = .returned (.iface 127 (.agg #[.int .i64 h.n, .string h.r, .int .i64 n, .slice ao0 L cap0])) ∧ Below w.heap.size w w' := by
 have B0 : Hid (Below w.heap.size w w) := Below.refl _ _
 obtain ⟨W1, HW1, b1, y1, hS1, r_a1⟩ := Ke.l1 w #[.int .i64 3, .int .i64 f, .int .i64 t, .int .i64 h.n, .string h.r, .int .i64 n, .slice ao0 L cap0] 35
 have z1 := b1.size
 have B1 := Ke.b B0 b1
 have c_a1 := Ke.c r_a1
 go_enter Tryz.func55, Tryz.ntmps55
 go_wp2
 go_ret
 exact ⟨rfl, by rw [HW1.out]; exact B1.out⟩
set_option maxRecDepth 1000000 in
set_option maxHeartbeats 4000000 in
theorem word0 (w : World) (k f t n : Int) (h : Hd) (ao0 : Option Addr) (L cap0 : Nat) (k1 : ¬ (k = 1 ∧ n = 0 ∧ L = 0)) (k2 : ¬ (k = 2 ∧ L = 0)) (k3 : ¬ k = 3) :
  Calls Tryz.prog 55 #[.agg #[.int .i64 k, .int .i64 f, .int .i64 t, .int .i64 h.n, .string h.r, .int .i64 n, .slice ao0 L cap0]] w fun e w' => e = .returned (.nilIface) ∧ Below w.heap.size w w' := by
 have B0 : Hid (Below w.heap.size w w) := Below.refl _ _
 have b3 : (k == 3) = false := by rw [beq_eq_false_iff_ne]; exact k3
 by_cases e1 : k = 1
 ·
  subst e1
  by_cases e0 : n = 0
  ·
   subst e0
   have lz : ¬ L = 0 := fun q => k1 ⟨rfl, rfl, q⟩
   have l1 : ¬ (L : Int) = 0 := by omega
   have l2 : ((L : Int) == 0) = false := by rw [beq_eq_false_iff_ne]; exact l1
   obtain ⟨W1, HW1, b1, y1, hS1, r_a1⟩ := Ke.l1 w #[.int .i64 1, .int .i64 f, .int .i64 t, .int .i64 h.n, .string h.r, .int .i64 0, .slice ao0 L cap0] 35
   have z1 := b1.size
   have B1 := Ke.b B0 b1
   have c_a1 := Ke.c r_a1
   go_enter Tryz.func55, Tryz.ntmps55
   go_wp2
   go_ret
   exact ⟨rfl, by rw [HW1.out]; exact B1.out⟩
  ·
   have nb : (n == 0) = false := by rw [beq_eq_false_iff_ne]; exact e0
   obtain ⟨W1, HW1, b1, y1, hS1, r_a1⟩ := Ke.l1 w #[.int .i64 1, .int .i64 f, .int .i64 t, .int .i64 h.n, .string h.r, .int .i64 n, .slice ao0 L cap0] 35
   have z1 := b1.size
   have B1 := Ke.b B0 b1
   have c_a1 := Ke.c r_a1
   go_enter Tryz.func55, Tryz.ntmps55
   go_wp2
   go_ret
   exact ⟨rfl, by rw [HW1.out]; exact B1.out⟩
 ·
  have b1 : (k == 1) = false := by rw [beq_eq_false_iff_ne]; exact e1
  by_cases e2 : k = 2
  ·
   subst e2
   have lz : ¬ L = 0 := fun q => k2 ⟨rfl, q⟩
   have l1 : ¬ (L : Int) = 0 := by omega
   have l2 : ((L : Int) == 0) = false := by rw [beq_eq_false_iff_ne]; exact l1
   obtain ⟨W1, HW1, b1, y1, hS1, r_a1⟩ := Ke.l1 w #[.int .i64 2, .int .i64 f, .int .i64 t, .int .i64 h.n, .string h.r, .int .i64 n, .slice ao0 L cap0] 35
   have z1 := b1.size
   have B1 := Ke.b B0 b1
   have c_a1 := Ke.c r_a1
   go_enter Tryz.func55, Tryz.ntmps55
   go_wp2
   go_ret
   exact ⟨rfl, by rw [HW1.out]; exact B1.out⟩
  ·
   have b2 : (k == 2) = false := by rw [beq_eq_false_iff_ne]; exact e2
   obtain ⟨W1, HW1, b1, y1, hS1, r_a1⟩ := Ke.l1 w #[.int .i64 k, .int .i64 f, .int .i64 t, .int .i64 h.n, .string h.r, .int .i64 n, .slice ao0 L cap0] 35
   have z1 := b1.size
   have B1 := Ke.b B0 b1
   have c_a1 := Ke.c r_a1
   go_enter Tryz.func55, Tryz.ntmps55
   go_wp2
   go_ret
   exact ⟨rfl, by rw [HW1.out]; exact B1.out⟩
set_option maxRecDepth 1000000 in
set_option maxHeartbeats 4000000 in
theorem mirror_impl (w : World) (n : Int) : Calls Tryz.prog 52 #[.int .i64 n] w fun e w' => e = .returned (.bool (decide (0 ≤ n ∧ n ≤ 20))) ∧ w = w' := by
 by_cases h0 : 0 ≤ n
 ·
  by_cases h1 : n ≤ 20
  ·
   rw [decide_eq_true (show 0 ≤ n ∧ n ≤ 20 from ⟨h0, h1⟩)]
   have d0 : decide (0 ≤ n) = true := decide_eq_true h0
   have d1 : decide (n ≤ 20) = true := decide_eq_true h1
   go_enter Tryz.func52, Tryz.ntmps52
   go_wp2
   go_ret
   exact ⟨rfl, rfl⟩
  ·
   rw [decide_eq_false (show ¬ (0 ≤ n ∧ n ≤ 20) from fun q => h1 q.2)]
   have d0 : decide (0 ≤ n) = true := decide_eq_true h0
   have d1 : decide (n ≤ 20) = false := decide_eq_false h1
   go_enter Tryz.func52, Tryz.ntmps52
   go_wp2
   go_ret
   exact ⟨rfl, rfl⟩
 ·
  rw [decide_eq_false (show ¬ (0 ≤ n ∧ n ≤ 20) from fun q => h0 q.1)]
  have d0 : decide (0 ≤ n) = false := decide_eq_false h0
  go_enter Tryz.func52, Tryz.ntmps52
  go_wp2
  go_ret
  exact ⟨rfl, rfl⟩
set_option maxRecDepth 1000000 in
set_option maxHeartbeats 4000000 in
theorem place_impl (w : World) (h : Hd) (n : Int) : Calls Tryz.prog 98 #[.agg #[.int .i64 h.n, .string h.r], .int .i64 n] w fun e w' => e = .returned (.bool (decide (0 ≤ n ∧ n < h.n))) ∧ Below w.heap.size w w' := by
 have HB : Hid (Below w.heap.size w (w.alloc (.cells #[.int .i64 h.n, .string h.r] 26))) := (Below.refl _ _).alloc (Nat.le_refl _) _
 by_cases h0 : 0 ≤ n
 ·
  have d0 : decide (0 ≤ n) = true := decide_eq_true h0
  by_cases h1 : n < h.n
  ·
   have HN : Hid (decide (0 ≤ n ∧ n < h.n) = true) := decide_eq_true ⟨h0, h1⟩
   have d1 : decide (n < h.n) = true := decide_eq_true h1
   rw [HN.out]
   go_enter Tryz.func98, Tryz.ntmps98
   go_wp2
   go_ret
   exact ⟨rfl, HB.out⟩
  ·
   have HN : Hid (decide (0 ≤ n ∧ n < h.n) = false) := decide_eq_false (fun q => h1 q.2)
   have d1 : decide (n < h.n) = false := decide_eq_false h1
   rw [HN.out]
   go_enter Tryz.func98, Tryz.ntmps98
   go_wp2
   go_ret
   exact ⟨rfl, HB.out⟩
 ·
  have d0 : decide (0 ≤ n) = false := decide_eq_false h0
  have HN : Hid (decide (0 ≤ n ∧ n < h.n) = false) := decide_eq_false (fun q => h0 q.1)
  rw [HN.out]
  go_enter Tryz.func98, Tryz.ntmps98
  go_wp2
  go_ret
  exact ⟨rfl, HB.out⟩
theorem method_h (v : Value) (w : World) : (Go.method 374 123 v "loop.example/g00233/impl.upTo").run Tryz.prog w = .ok (218, v) w := by kernel_rfl
set_option maxRecDepth 1000000 in
set_option maxHeartbeats 4000000 in
theorem upto_h (w : World) (h : Hd) : Calls Tryz.prog 218 #[.agg #[.int .i64 h.n, .string h.r]] w fun e w' => e = .returned (.agg #[.int .i64 h.n, .string h.r]) ∧ Below w.heap.size w w' := by
 have B0 : Hid (Below w.heap.size w w) := Below.refl _ _
 obtain ⟨W1, HW1, b1, y1, hS1, r_a1, r_res1⟩ := Ke.l2 w #[.int .i64 h.n, .string h.r] 123 #[.int .i64 0, .string ⟨#[]⟩] 26
 have z1 := b1.size
 have B1 := Ke.b B0 b1
 have c_a1 := Ke.c r_a1
 have c_res1 := Ke.c r_res1
 go_enter Tryz.func218, Tryz.ntmps218
 go_wp2_with ((try rw [HW1.out]); refine wpList_store_row rfl 26 _ _ rfl (w.heap.size + 1) (hc h) rfl rfl 26 _ r_res1.out (sizeH h) rfl (oneH h) ?_)
 exact bodyPost_ret (v := .agg (hc h)) (results_cell_row rfl _ _ (w.heap.size + 1) 26 _ (0, 0) _ rfl (setRow_heap _ _ _ _ _ (0, 0) r_res1.out) Tryz.underlying26 rfl (sizeH h)) rfl ⟨rfl, below_setRow B1.out (by omega) _⟩
theorem method_a (v : Value) (w : World) : (Go.method 374 125 v "loop.example/g00233/impl.upTo").run Tryz.prog w = .ok (219, v) w := by kernel_rfl
set_option maxRecDepth 1000000 in
set_option maxHeartbeats 4000000 in
theorem upto_a (w : World) (h : Hd) (n : Int) : Calls Tryz.prog 219 #[.agg #[.int .i64 h.n, .string h.r, .int .i64 n]] w fun e w' => e = .returned (.agg #[.int .i64 h.n, .string h.r]) ∧ Below w.heap.size w w' := by
 have B0 : Hid (Below w.heap.size w w) := Below.refl _ _
 obtain ⟨W1, HW1, b1, y1, hS1, r_a1, r_res1⟩ := Ke.l2 w #[.int .i64 h.n, .string h.r, .int .i64 n] 125 #[.int .i64 0, .string ⟨#[]⟩] 26
 have z1 := b1.size
 have B1 := Ke.b B0 b1
 have c_a1 := Ke.c r_a1
 have c_res1 := Ke.c r_res1
 go_enter Tryz.func219, Tryz.ntmps219
 go_wp2_with ((try rw [HW1.out]); refine wpList_store_row rfl 26 _ _ rfl (w.heap.size + 1) (hc h) rfl rfl 26 _ r_res1.out (sizeH h) rfl (oneH h) ?_)
 exact bodyPost_ret (v := .agg (hc h)) (results_cell_row rfl _ _ (w.heap.size + 1) 26 _ (0, 0) _ rfl (setRow_heap _ _ _ _ _ (0, 0) r_res1.out) Tryz.underlying26 rfl (sizeH h)) rfl ⟨rfl, below_setRow B1.out (by omega) _⟩
theorem method_t (v : Value) (w : World) : (Go.method 374 127 v "loop.example/g00233/impl.upTo").run Tryz.prog w = .ok (220, v) w := by kernel_rfl
set_option maxRecDepth 1000000 in
set_option maxHeartbeats 4000000 in
theorem upto_t (w : World) (h : Hd) (n : Int) (ao0 : Option Addr) (L cap0 : Nat) : Calls Tryz.prog 220 #[.agg #[.int .i64 h.n, .string h.r, .int .i64 n, .slice ao0 L cap0]] w fun e w' => e = .returned (.agg #[.int .i64 h.n, .string h.r]) ∧ Below w.heap.size w w' := by
 have B0 : Hid (Below w.heap.size w w) := Below.refl _ _
 obtain ⟨W1, HW1, b1, y1, hS1, r_a1, r_res1⟩ := Ke.l2 w #[.int .i64 h.n, .string h.r, .int .i64 n, .slice ao0 L cap0] 127 #[.int .i64 0, .string ⟨#[]⟩] 26
 have z1 := b1.size
 have B1 := Ke.b B0 b1
 have c_a1 := Ke.c r_a1
 have c_res1 := Ke.c r_res1
 go_enter Tryz.func220, Tryz.ntmps220
 go_wp2_with ((try rw [HW1.out]); refine wpList_store_row rfl 26 _ _ rfl (w.heap.size + 1) (hc h) rfl rfl 26 _ r_res1.out (sizeH h) rfl (oneH h) ?_)
 exact bodyPost_ret (v := .agg (hc h)) (results_cell_row rfl _ _ (w.heap.size + 1) 26 _ (0, 0) _ rfl (setRow_heap _ _ _ _ _ (0, 0) r_res1.out) Tryz.underlying26 rfl (sizeH h)) rfl ⟨rfl, below_setRow B1.out (by omega) _⟩
end Go.Proofs.YtchonoonclllbaaGreatDoor.Wd
