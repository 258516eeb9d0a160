/- Texts in one: KpG, WdA, MiW. -/
import Derived.Test.YtchonoonclllbaaDoorPk6
import Derived.Test.YtchonoonclllbaaDoorPk10
import Derived.Test.YtchonoonclllbaaDoorPk14
import Derived.Test.YtchonoonclllbaaDoorPk13
import Derived.Test.YtchonoonclllbaaDoorPk5
import Derived.Test.YtchonoonclllbaaDoorPk9
import Derived.Test.YtchonoonclllbaaDoorRows
import Derived.Test.YtchonoonclllbaaDoorPk4
import Derived.Test.YtchonoonclllbaaDoorPk2
import Derived.Test.YtchonoonclllbaaDoorPk1
import Derived.Test.YtchonoonclllbaaDoorChecked
import Derived.Test.YtchonoonclllbaaDoorPk11
import Derived.Stop.LaidTwo
import Derived.LaidSub
import Derived.MakeChecks
import Derived.ChangeShapes
import Derived.StillTailTactics
import Derived.Deep.MidRow
import Derived.WalkKit
import Derived.LaidEql
import Derived.Stop.Asserts
import Derived.RowKitTokens
import Derived.BigQuiet
import Derived.Deep.RegionHeld3
import Derived.Lib.Strings
import Derived.Lib.Walk
import Derived.Lib.BufferWrite
import Derived.Lib.UnsafeStr
import Derived.Lib.Hide
import Derived.Laws.MakeOwn
import Derived.Laws.StructEq
namespace Go.Proofs.YtchonoonclllbaaDoor.Sr
open Go.RowKit Go.Proofs.YtchonoonclllbaaDoor.Mem Go.Proofs.YtchonoonclllbaaDoor.Laws Go.Proofs.YtchonoonclllbaaDoor.Bytes Go.Proofs.YtchonoonclllbaaDoor.Sha Go.Proofs.YtchonoonclllbaaDoor.Tr Go.Proofs.YtchonoonclllbaaDoor.He Go.Proofs.YtchonoonclllbaaDoor.Lg
set_option linter.unusedVariables false
set_option linter.unusedSimpArgs false
theorem none5G (w : World) (lo hi : Nat) : Own w lo hi 5 (.slice none 0 0) (bs []) := ⟨⟨rfl, Or.inl ⟨rfl, rfl⟩⟩, fun g hg => by simp [Value.ownBlock] at hg⟩
set_option maxRecDepth 1000000 in
set_option maxHeartbeats 4000000 in
theorem storenew_impl (w : World) (hG : Glob w) : Calls Tryd.prog 13 #[] w fun e w' => ∃ v' vb', e = .returned (.agg #[v', .int .i64 (headOf []).n, .string (headOf []).r, vb', .int .i64 0]) ∧ Own w' w.heap.size w'.heap.size 9 v' (ss []) ∧ Own w' w.heap.size w'.heap.size 5 vb' (bs []) ∧ Below w.heap.size w w' := by
 have HG : Hid (Glob w) := hG
 clear hG
 have B0 : Hid (Below w.heap.size w w) := Below.refl _ _
 obtain ⟨W1, HW1, b1, y1, hS1, r_res1⟩ := Ke.l1 w #[.slice none 0 0, .int .i64 0, .string ⟨#[]⟩, .slice none 0 0, .int .i64 0] 29
 have z1 := b1.size
 have B1 := Ke.b B0 b1
 obtain ⟨M, hM⟩ : ∃ M, headOf [] = M := ⟨_, rfl⟩
 have q : ∀ W, Glob W → _ := fun W h0 => lognew_impl W h0
 simp only [hM] at q
 rw [hM]
 clear hM
 go_enter Tryd.func13, Tryd.ntmps13
 go_wp2_with fail
 rw [HW1.out]
 refine (q W1 (HG.out.later B1.out)).mono ?_
 rintro e W2 ⟨v_s, rfl, o_s2, b2⟩
 obtain ⟨ao_s, L_s, cap_s, rfl, hL_s, hM_s⟩ := o_s2.form
 have o_s2 : Hid (Own W2 W1.heap.size W2.heap.size 9 (.slice ao_s L_s cap_s) (ss [])) := o_s2
 clear hL_s hM_s
 have z2 := b2.size
 have B2 := Ke.b B1 b2
 have r_res2 := Ke.r r_res1 b2
 clear r_res1
 go_wp2_with (refine wpList_store_row rfl 29 _ _ rfl (w.heap.size) (sc (.slice ao_s L_s cap_s) M (.slice none 0 0) 0) rfl rfl 29 _ r_res2.out (sizeS _ _ _ _) rfl (oneS _ _ rfl rfl) ?_)
 refine bodyPost_ret (v := .agg (sc (.slice ao_s L_s cap_s) M (.slice none 0 0) 0)) (results_cell_row rfl _ _ (w.heap.size) 29 _ (0, 0) _ rfl (setRow_heap _ _ _ _ _ (0, 0) r_res2.out) Tryd.underlying29 rfl (sizeS _ _ _ _)) rfl ⟨_, _, rfl, (Own.setRow o_s2.out _ (by omega)).mono (by omega) (by rw [size_setRow]; omega), none5G _ _ _, below_setRow B2.out (by omega) _⟩
end Go.Proofs.YtchonoonclllbaaDoor.Sr
namespace Go.Proofs.YtchonoonclllbaaDoor.Wd
open Go.Proofs.YtchonoonclllbaaDoor.Mg
open Go.RowKit Go.Proofs.YtchonoonclllbaaDoor.Mem Go.Proofs.YtchonoonclllbaaDoor.Laws Go.Proofs.YtchonoonclllbaaDoor.Bytes Go.Proofs.YtchonoonclllbaaDoor.Sha Go.Proofs.YtchonoonclllbaaDoor.Tr Go.Proofs.YtchonoonclllbaaDoor.He
set_option linter.unusedVariables false
set_option linter.unusedSimpArgs false
set_option maxRecDepth 1000000 in
set_option maxHeartbeats 4000000 in
theorem mirror_impl (w : World) (n : Int) : Calls Tryd.prog 12 #[.int .i64 n] w fun e w' => e = .returned (.bool (decide (0 ≤ n ∧ n ≤ 20))) ∧ w = w' := by
 by_cases h0 : 0 ≤ n
 ·
  by_cases h1 : n ≤ 20
  ·
   rw [decide_eq_true (show 0 ≤ n ∧ n ≤ 20 from ⟨h0, h1⟩)]
   have d0 : decide (0 ≤ n) = true := decide_eq_true h0
   have d1 : decide (n ≤ 20) = true := decide_eq_true h1
   go_enter Tryd.func12, Tryd.ntmps12
   go_wp2
   go_ret
   exact ⟨rfl, rfl⟩
  ·
   rw [decide_eq_false (show ¬ (0 ≤ n ∧ n ≤ 20) from fun q => h1 q.2)]
   have d0 : decide (0 ≤ n) = true := decide_eq_true h0
   have d1 : decide (n ≤ 20) = false := decide_eq_false h1
   go_enter Tryd.func12, Tryd.ntmps12
   go_wp2
   go_ret
   exact ⟨rfl, rfl⟩
 ·
  rw [decide_eq_false (show ¬ (0 ≤ n ∧ n ≤ 20) from fun q => h0 q.1)]
  have d0 : decide (0 ≤ n) = false := decide_eq_false h0
  go_enter Tryd.func12, Tryd.ntmps12
  go_wp2
  go_ret
  exact ⟨rfl, rfl⟩
end Go.Proofs.YtchonoonclllbaaDoor.Wd
namespace Go.Proofs.YtchonoonclllbaaDoor.Mi
open Go.RowKit Go.Proofs.YtchonoonclllbaaDoor.Mem Go.Proofs.YtchonoonclllbaaDoor.Laws Go.Proofs.YtchonoonclllbaaDoor.Bytes Go.Proofs.YtchonoonclllbaaDoor.Sha Go.Proofs.YtchonoonclllbaaDoor.Tr Go.Proofs.YtchonoonclllbaaDoor.He Go.Proofs.YtchonoonclllbaaDoor.Lg Go.Proofs.YtchonoonclllbaaDoor.Sr Go.Proofs.YtchonoonclllbaaDoor.Mg
set_option linter.unusedVariables false
set_option linter.unusedSimpArgs false
theorem slNil15 (w : World) : Sl w (.slice none 0 0) (ss []) := ⟨none, 0, rfl, Nat.le_refl _, fun _ => rfl, fun h => by simp [ss] at h⟩
theorem slNil16 (w : World) : Sl w (.slice none 0 0) (bs []) := ⟨none, 0, rfl, Nat.le_refl _, fun _ => rfl, fun h => by simp [bs] at h⟩
theorem own15 (w : World) (lo hi : Nat) (e : TypeId) : Own w lo hi e (.slice none 0 0) [] := ⟨⟨rfl, Or.inl ⟨rfl, rfl⟩⟩, fun g hg => by simp [Value.ownBlock] at hg⟩
set_option maxRecDepth 1000000 in
set_option maxHeartbeats 16000000 in
theorem mirrornew_spec (w : World) (id : Int) : Calls Tryd.prog 4 #[.int .i64 id] w fun e w' => e = .returned (.agg #[.int .i64 (mirrorNew id).id, .slice none 0 0, .int .i64 (mirrorNew id).st.h.n, .string (mirrorNew id).st.h.r, .slice none 0 0, .int .i64 (mirrorNew id).st.s, .int .i64 (mirrorNew id).b.n, .string (mirrorNew id).b.r]) ∧ Below w.heap.size w w' := by
 obtain ⟨R, hR⟩ : ∃ R, mirrorNew id = R := ⟨_, rfl⟩
 have HR : Hid (mirrorNew id = R) := hR
 rw [hR]
 clear hR
 have B0 : Hid (Below w.heap.size w w) := Below.refl _ _
 obtain ⟨W1, HW1, b1, y1, hS1, r_res1⟩ := Ke.l1 w #[.int .i64 0, .slice none 0 0, .int .i64 0, .string ⟨#[]⟩, .slice none 0 0, .int .i64 0, .int .i64 0, .string ⟨#[]⟩] 31
 have z1 := b1.size
 have B1 := Ke.b B0 b1
 have c_res1 := Ke.c r_res1
 obtain ⟨I, hI⟩ : ∃ I, decide (0 ≤ id ∧ id ≤ 20) = I := ⟨_, rfl⟩
 have q0 : ∀ W, _ := fun W => in6 W id 0 20
 simp only [hI] at q0
 obtain ⟨M, hM⟩ : ∃ M, headOf [] = M := ⟨_, rfl⟩
 have HD : Hid (R = if I = true then ⟨id, ⟨[], M, [], 0⟩, M⟩ else mr0) := by
  show _ = _
  rw [← HR.out, ← hI]
  unfold mirrorNew new12
  rw [hM]
  by_cases h9 : 0 ≤ id ∧ id ≤ 20
  ·
   rw [if_pos h9, if_pos (decide_eq_true h9)]
  ·
   rw [if_neg h9, if_neg (by rw [decide_eq_true_eq]; exact h9)]
 have q1 : ∀ W, _ := fun W => storenew_spec W
 have q2 : ∀ W v1, Sl W v1 (ss []) → _ := fun W v1 h1 => headOf_spec W v1 [] h1 (by simp) (fun s hs => by cases hs)
 simp only [hM] at q1 q2
 clear hM hI HR
 go_enter Tryd.func4, Tryd.ntmps4
 go_wp2_with fail
 rw [HW1.out]
 refine (q0 W1).mono ?_
 rintro e W_ ⟨rfl, hW_⟩
 subst hW_
 clear q0
 cases I
 ·
  have HN : Hid (R = mr0) := by show _ = _; rw [HD.out]; rfl
  go_wp2_with (refine wpList_store_row rfl 31 _ _ rfl (w.heap.size) (mq 0 (.slice none 0 0) hd0 (.slice none 0 0) 0 hd0) rfl rfl 31 _ r_res1.out (sizeQ _ _ _ _ _ _) rfl (oneQ _ _ _ _ rfl rfl) ?_)
  exact bodyPost_ret (v := .agg (mq 0 (.slice none 0 0) hd0 (.slice none 0 0) 0 hd0)) (results_cell_row rfl _ _ (w.heap.size) 31 _ (0, 0) _ rfl (setRow_heap _ _ _ _ _ (0, 0) r_res1.out) Tryd.underlying31 rfl (sizeQ _ _ _ _ _ _)) rfl ⟨by rw [HN.out]; rfl, below_setRow B1.out (by omega) _⟩
 ·
  have HN : Hid (R = ⟨id, ⟨[], M, [], 0⟩, M⟩) := by show _ = _; rw [HD.out]; rfl
  go_wp2_with fail
  refine (q1 W1).mono ?_
  rintro e W2 ⟨rfl, b2⟩
  have z2 := b2.size
  have B2 := Ke.b B1 b2
  have r_res2 := Ke.r r_res1 b2
  have c_res2 := Ke.c r_res2
  clear r_res1 c_res1
  have a_res2 := Ke.a r_res2
  obtain ⟨W3, HW3, b3, hS3, o_e3⟩ : ∃ X, Hid ((W2.alloc (.cells #[] 9)) = X) ∧ Below W2.heap.size W2 X ∧ Hid (X.heap.size = W2.heap.size + 1) ∧ Hid (Own X W2.heap.size X.heap.size 9 (.slice (some ⟨W2.heap.size, 0, none⟩) 0 0) (ss [])) := ⟨_, rfl, (Below.refl _ _).alloc (Nat.le_refl _) _, (by show _ = _; simp), emptyT W2 W2.heap.size (Nat.le_refl _)⟩
  have z3 := b3.size
  have B3 := Ke.b B2 b3
  have r_res3 := Ke.r r_res2 b3
  have c_res3 := Ke.c r_res3
  clear r_res2 c_res2
  go_wp2_with fail
  rw [HW3.out]
  clear a_res2
  refine (q2 W3 _ o_e3.out.sl).mono ?_
  rintro e W4 ⟨rfl, b4⟩
  have z4 := b4.size
  have B4 := Ke.b B3 b4
  have r_res4 := Ke.r r_res3 b4
  have o_e4 := Ke.o o_e3 b4
  have c_res4 := Ke.c r_res4
  clear r_res3 c_res3 o_e3
  clear o_e4
  go_wp2_with (refine wpList_store_row rfl 31 _ _ rfl (w.heap.size) (mq id (.slice none 0 0) M (.slice none 0 0) 0 M) rfl rfl 31 _ r_res4.out (sizeQ _ _ _ _ _ _) rfl (oneQ _ _ _ _ rfl rfl) ?_)
  exact bodyPost_ret (v := .agg (mq id (.slice none 0 0) M (.slice none 0 0) 0 M)) (results_cell_row rfl _ _ (w.heap.size) 31 _ (0, 0) _ rfl (setRow_heap _ _ _ _ _ (0, 0) r_res4.out) Tryd.underlying31 rfl (sizeQ _ _ _ _ _ _)) rfl ⟨by rw [HN.out]; rfl, below_setRow B4.out (by omega) _⟩
set_option maxRecDepth 1000000 in
set_option maxHeartbeats 16000000 in
theorem mirrornew_impl (w : World) (id : Int) (hG : Glob w) : Calls Tryd.prog 5 #[.int .i64 id] w fun e w' => ∃ v' vb', e = .returned (.agg #[.int .i64 (mirrorNew id).id, v', .int .i64 (mirrorNew id).st.h.n, .string (mirrorNew id).st.h.r, vb', .int .i64 (mirrorNew id).st.s, .int .i64 (mirrorNew id).b.n, .string (mirrorNew id).b.r]) ∧ Own w' w.heap.size w'.heap.size 9 v' (ss []) ∧ Own w' w.heap.size w'.heap.size 5 vb' (bs []) ∧ Below w.heap.size w w' := by
 obtain ⟨R, hR⟩ : ∃ R, mirrorNew id = R := ⟨_, rfl⟩
 have HR : Hid (mirrorNew id = R) := hR
 rw [hR]
 clear hR
 have HG : Hid (Glob w) := hG
 clear hG
 have B0 : Hid (Below w.heap.size w w) := Below.refl _ _
 obtain ⟨W1, HW1, b1, y1, hS1, r_res1⟩ := Ke.l1 w #[.int .i64 0, .slice none 0 0, .int .i64 0, .string ⟨#[]⟩, .slice none 0 0, .int .i64 0, .int .i64 0, .string ⟨#[]⟩] 31
 have z1 := b1.size
 have B1 := Ke.b B0 b1
 have c_res1 := Ke.c r_res1
 obtain ⟨I, hI⟩ : ∃ I, decide (0 ≤ id ∧ id ≤ 20) = I := ⟨_, rfl⟩
 have q0 : ∀ W, _ := fun W => Wd.mirror_impl W id
 simp only [hI] at q0
 obtain ⟨M, hM⟩ : ∃ M, headOf [] = M := ⟨_, rfl⟩
 have HD : Hid (R = if I = true then ⟨id, ⟨[], M, [], 0⟩, M⟩ else mr0) := by
  show _ = _
  rw [← HR.out, ← hI]
  unfold mirrorNew new12
  rw [hM]
  by_cases h9 : 0 ≤ id ∧ id ≤ 20
  ·
   rw [if_pos h9, if_pos (decide_eq_true h9)]
  ·
   rw [if_neg h9, if_neg (by rw [decide_eq_true_eq]; exact h9)]
 have q1 : ∀ W, Glob W → _ := fun W hW => storenew_impl W hW
 have q2 : ∀ W, Glob W → _ := fun W hW => headOf_impl W (.slice none 0 0) [] hW (slNil15 W) (by simp) (fun s hs => by cases hs)
 simp only [hM] at q1 q2
 clear hM hI HR
 go_enter Tryd.func5, Tryd.ntmps5
 go_wp2_with fail
 rw [HW1.out]
 refine (q0 W1).mono ?_
 rintro e W_ ⟨rfl, hW_⟩
 subst hW_
 clear q0
 cases I
 ·
  have HN : Hid (R = mr0) := by show _ = _; rw [HD.out]; rfl
  go_wp2_with (refine wpList_store_row rfl 31 _ _ rfl (w.heap.size) (mq 0 (.slice none 0 0) hd0 (.slice none 0 0) 0 hd0) rfl rfl 31 _ r_res1.out (sizeQ _ _ _ _ _ _) rfl (oneQ _ _ _ _ rfl rfl) ?_)
  exact bodyPost_ret (v := .agg (mq 0 (.slice none 0 0) hd0 (.slice none 0 0) 0 hd0)) (results_cell_row rfl _ _ (w.heap.size) 31 _ (0, 0) _ rfl (setRow_heap _ _ _ _ _ (0, 0) r_res1.out) Tryd.underlying31 rfl (sizeQ _ _ _ _ _ _)) rfl ⟨_, _, by rw [HN.out]; rfl, own15 _ _ _ _, own15 _ _ _ _, below_setRow B1.out (by omega) _⟩
 ·
  have HN : Hid (R = ⟨id, ⟨[], M, [], 0⟩, M⟩) := by show _ = _; rw [HD.out]; rfl
  go_wp2_with fail
  refine (q1 W1 (HG.out.later B1.out)).mono ?_
  rintro e W2 ⟨v_s, v_p, rfl, o_s2, o_p2, b2⟩
  obtain ⟨lo_s, hi_s, lo_p, hi_p, d1_s, d2_s, d3_s, d4_s, d5_s, d6_s, d7_s, oo_s, oo_p⟩ := Sr.pairN o_s2 o_p2 b2.size
  clear o_s2 o_p2
  obtain ⟨ao_s, L_s, cap_s, rfl, _, _⟩ := oo_s.form
  obtain ⟨ao_p, L_p, cap_p, rfl, _, _⟩ := oo_p.form
  have o_s2 : Hid (Own W2 lo_s hi_s 9 (.slice ao_s L_s cap_s) (ss [])) := oo_s
  have o_p2 : Hid (Own W2 lo_p hi_p 5 (.slice ao_p L_p cap_p) (bs [])) := oo_p
  clear oo_s oo_p
  have z2 := b2.size
  have B2 := Ke.b B1 b2
  have r_res2 := Ke.r r_res1 b2
  have c_res2 := Ke.c r_res2
  clear r_res1 c_res1
  go_wp2_with fail
  refine (q2 W2 (HG.out.later B2.out)).mono ?_
  rintro e W3 ⟨rfl, b3⟩
  have z3 := b3.size
  have B3 := Ke.b B2 b3
  have r_res3 := Ke.r r_res2 b3
  have o_s3 := Ke.o o_s2 b3
  have o_p3 := Ke.o o_p2 b3
  have c_res3 := Ke.c r_res3
  clear r_res2 c_res2 o_s2 o_p2
  go_wp2_with (refine wpList_store_row rfl 31 _ _ rfl (w.heap.size) (mq id (.slice ao_s L_s cap_s) M (.slice ao_p L_p cap_p) 0 M) rfl rfl 31 _ r_res3.out (sizeQ _ _ _ _ _ _) rfl (oneQ _ _ _ _ rfl rfl) ?_)
  exact bodyPost_ret (v := .agg (mq id (.slice ao_s L_s cap_s) M (.slice ao_p L_p cap_p) 0 M)) (results_cell_row rfl _ _ (w.heap.size) 31 _ (0, 0) _ rfl (setRow_heap _ _ _ _ _ (0, 0) r_res3.out) Tryd.underlying31 rfl (sizeQ _ _ _ _ _ _)) rfl ⟨_, _, by rw [HN.out]; rfl, (Own.setRow o_s3.out _ (by omega)).mono (by omega) (by rw [size_setRow]; omega), (Own.setRow o_p3.out _ (by omega)).mono (by omega) (by rw [size_setRow]; omega), below_setRow B3.out (by omega) _⟩
set_option maxRecDepth 1000000 in
set_option maxHeartbeats 16000000 in
theorem exact_mirrornew (w : World) (id : Int) (hG : Glob w) :
  Calls Tryd.prog 3 #[.int .i64 id] w fun e w' => e = .returned (.bool true) ∧ Below w.heap.size w w' := by
 have HG : Hid (Glob w) := hG
 clear hG
 have B0 : Hid (Below w.heap.size w w) := Below.refl _ _
 have q1 : ∀ W, _ := fun W => mirrornew_spec W id
 have q2 : ∀ W, Below w.heap.size w W → _ := fun W hB => mirrornew_impl W id (HG.out.later hB)
 obtain ⟨i2, Hx, Sx, Gx, hM⟩ : ∃ i2 H S G, mirrorNew id = ⟨i2, ⟨[], H, [], S⟩, G⟩ := by
  unfold mirrorNew
  split
  ·
   exact ⟨_, _, _, _, rfl⟩
  ·
   exact ⟨_, _, _, _, rfl⟩
 simp only [hM] at q1 q2
 clear hM
 go_enter Tryd.func3, Tryd.ntmps3
 go_wp2_with fail
 refine (q1 w).mono ?_
 rintro e W1 ⟨rfl, b1⟩
 have z1 := b1.size
 have B1 := Ke.b B0 b1
 obtain ⟨W2, HW2, b2, y2, hS2, r_w02⟩ := Ke.l1 W1 #[.int .i64 i2, .slice none 0 0, .int .i64 Hx.n, .string Hx.r, .slice none 0 0, .int .i64 Sx, .int .i64 Gx.n, .string Gx.r] 31
 have z2 := b2.size
 have B2 := Ke.b B1 b2
 have c_w02 := Ke.c r_w02
 go_wp2_with fail
 rw [HW2.out]
 refine (q2 W2 B2.out).mono ?_
 rintro e W3 ⟨v_g, v_gp, rfl, o_g3, o_gp3, b3⟩
 obtain ⟨lo_g, hi_g, lo_gp, hi_gp, d1_g, d2_g, d3_g, d4_g, d5_g, d6_g, d7_g, oo_g, oo_gp⟩ := Sr.pairN o_g3 o_gp3 b3.size
 clear o_g3 o_gp3
 obtain ⟨ao_g, L_g, cap_g, rfl, _, _⟩ := oo_g.form
 obtain ⟨ao_gp, L_gp, cap_gp, rfl, _, _⟩ := oo_gp.form
 have o_g3 : Hid (Own W3 lo_g hi_g 9 (.slice ao_g L_g cap_g) (ss [])) := oo_g
 have o_gp3 : Hid (Own W3 lo_gp hi_gp 5 (.slice ao_gp L_gp cap_gp) (bs [])) := oo_gp
 clear oo_g oo_gp
 have z3 := b3.size
 have B3 := Ke.b B2 b3
 have r_w03 := Ke.r r_w02 b3
 have c_w03 := Ke.c r_w03
 clear r_w02 c_w02
 have a_w03 := Ke.a r_w03
 obtain ⟨W4, HW4, b4, y4, hS4, r_g04⟩ := Ke.l1 W3 #[.int .i64 i2, .slice ao_g L_g cap_g, .int .i64 Hx.n, .string Hx.r, .slice ao_gp L_gp cap_gp, .int .i64 Sx, .int .i64 Gx.n, .string Gx.r] 31
 have z4 := b4.size
 have B4 := Ke.b B3 b4
 have r_w04 := Ke.r r_w03 b4
 have o_g4 := Ke.o o_g3 b4
 have o_gp4 := Ke.o o_gp3 b4
 have c_w04 := Ke.c r_w04
 have c_g04 := Ke.c r_g04
 clear r_w03 c_w03 o_g3 o_gp3
 go_wp2_with fail
 rw [HW4.out]
 clear a_w03
 refine (eq_mirror W4 _ _ _ _ i2 [] Hx [] Sx Gx o_g4.out.sl (slNil15 _) o_gp4.out.sl (slNil16 _) (by simp) (by simp)).mono ?_
 rintro e W5 ⟨rfl, b5⟩
 have z5 := b5.size
 have B5 := Ke.b B4 b5
 have r_w05 := Ke.r r_w04 b5
 have r_g05 := Ke.r r_g04 b5
 have o_g5 := Ke.o o_g4 b5
 have o_gp5 := Ke.o o_gp4 b5
 have c_w05 := Ke.c r_w05
 have c_g05 := Ke.c r_g05
 clear r_w04 c_w04 r_g04 c_g04 o_g4 o_gp4
 go_wp2_with fail
 refine (mark_mirror W5 i2 Hx Gx _ _ Sx _ _ _ _ [] [] 1 o_g5.out o_gp5.out (by omega) (by omega) (by omega) (by simp) (by simp) (by omega) (by omega)).mono ?_
 rintro e W6 ⟨rfl, o_g6, o_gp6, p6⟩
 have o_g6 : Hid (Own W6 (lo_g) (hi_g) 9 (.slice ao_g L_g cap_g) (ss (Strs.mts 1 ([] : List ByteArray).length))) := o_g6
 have o_gp6 : Hid (Own W6 (lo_gp) (hi_gp) 5 (.slice ao_gp L_gp cap_gp) (bs (marks (1 + ([] : List ByteArray).length) ([] : List Int).length))) := o_gp6
 have z6 : W5.heap.size ≤ W6.heap.size := p6.size
 have B6 : Hid (Below w.heap.size w W6) := B5.out.trans (p6.below (by have := B5.out.size; omega) (by have := B5.out.size; omega) B5.out.size)
 have r_w06 : Hid (W6.heap[W1.heap.size]? = some (.cells #[.int .i64 i2, .slice none 0 0, .int .i64 Hx.n, .string Hx.r, .slice none 0 0, .int .i64 Sx, .int .i64 Gx.n, .string Gx.r] 31 (0, 0))) := (p6.block (W1.heap.size) (by omega) (by omega) (by omega)).trans r_w05.out
 have r_g06 : Hid (W6.heap[W3.heap.size]? = some (.cells #[.int .i64 i2, .slice ao_g L_g cap_g, .int .i64 Hx.n, .string Hx.r, .slice ao_gp L_gp cap_gp, .int .i64 Sx, .int .i64 Gx.n, .string Gx.r] 31 (0, 0))) := (p6.block (W3.heap.size) (by omega) (by omega) (by omega)).trans r_g05.out
 have c_w06 := Ke.c r_w06
 have c_g06 := Ke.c r_g06
 clear r_w05 c_w05 r_g05 c_g05 o_g5 o_gp5
 go_wp2_with fail
 refine (held_mirror W6 i2 Hx Gx _ _ Sx ([] : List ByteArray).length ([] : List Int).length 1 o_g6.out.sl o_gp6.out.sl (by simp) (by simp) (by omega) (by omega)).mono ?_
 rintro e W7 ⟨rfl, b7⟩
 have z7 := b7.size
 have B7 := Ke.b B6 b7
 have r_w07 := Ke.r r_w06 b7
 have r_g07 := Ke.r r_g06 b7
 have o_g7 := Ke.o o_g6 b7
 have o_gp7 := Ke.o o_gp6 b7
 have c_w07 := Ke.c r_w07
 have c_g07 := Ke.c r_g07
 clear r_w06 c_w06 r_g06 c_g06 o_g6 o_gp6
 go_wp2_with fail
 refine (q2 W7 B7.out).mono ?_
 rintro e W8 ⟨v_h, v_hp, rfl, o_h8, o_hp8, b8⟩
 obtain ⟨lo_h, hi_h, lo_hp, hi_hp, d1_h, d2_h, d3_h, d4_h, d5_h, d6_h, d7_h, oo_h, oo_hp⟩ := Sr.pairN o_h8 o_hp8 b8.size
 clear o_h8 o_hp8
 obtain ⟨ao_h, L_h, cap_h, rfl, _, _⟩ := oo_h.form
 obtain ⟨ao_hp, L_hp, cap_hp, rfl, _, _⟩ := oo_hp.form
 have o_h8 : Hid (Own W8 lo_h hi_h 9 (.slice ao_h L_h cap_h) (ss [])) := oo_h
 have o_hp8 : Hid (Own W8 lo_hp hi_hp 5 (.slice ao_hp L_hp cap_hp) (bs [])) := oo_hp
 clear oo_h oo_hp
 have z8 := b8.size
 have B8 := Ke.b B7 b8
 have r_w08 := Ke.r r_w07 b8
 have r_g08 := Ke.r r_g07 b8
 have o_g8 := Ke.o o_g7 b8
 have o_gp8 := Ke.o o_gp7 b8
 have c_w08 := Ke.c r_w08
 have c_g08 := Ke.c r_g08
 clear r_w07 c_w07 r_g07 c_g07 o_g7 o_gp7
 have a_w08 := Ke.a r_w08
 have a_g08 := Ke.a r_g08
 obtain ⟨W9, HW9, b9, y9, hS9, r_h09⟩ := Ke.l1 W8 #[.int .i64 i2, .slice ao_h L_h cap_h, .int .i64 Hx.n, .string Hx.r, .slice ao_hp L_hp cap_hp, .int .i64 Sx, .int .i64 Gx.n, .string Gx.r] 31
 have z9 := b9.size
 have B9 := Ke.b B8 b9
 have r_w09 := Ke.r r_w08 b9
 have r_g09 := Ke.r r_g08 b9
 have o_g9 := Ke.o o_g8 b9
 have o_gp9 := Ke.o o_gp8 b9
 have o_h9 := Ke.o o_h8 b9
 have o_hp9 := Ke.o o_hp8 b9
 have c_w09 := Ke.c r_w09
 have c_g09 := Ke.c r_g09
 have c_h09 := Ke.c r_h09
 clear r_w08 c_w08 r_g08 c_g08 o_g8 o_gp8 o_h8 o_hp8
 go_wp2_with fail
 rw [HW9.out]
 clear a_w08 a_g08
 refine (eq_mirror W9 _ _ _ _ i2 [] Hx [] Sx Gx o_h9.out.sl (slNil15 _) o_hp9.out.sl (slNil16 _) (by simp) (by simp)).mono ?_
 rintro e W10 ⟨rfl, b10⟩
 have z10 := b10.size
 have B10 := Ke.b B9 b10
 have r_w010 := Ke.r r_w09 b10
 have r_g010 := Ke.r r_g09 b10
 have r_h010 := Ke.r r_h09 b10
 have o_g10 := Ke.o o_g9 b10
 have o_gp10 := Ke.o o_gp9 b10
 have o_h10 := Ke.o o_h9 b10
 have o_hp10 := Ke.o o_hp9 b10
 have c_w010 := Ke.c r_w010
 have c_g010 := Ke.c r_g010
 have c_h010 := Ke.c r_h010
 clear r_w09 c_w09 r_g09 c_g09 r_h09 c_h09 o_g9 o_gp9 o_h9 o_hp9
 go_wp2_with fail
 refine (held_mirror W10 i2 Hx Gx _ _ Sx ([] : List ByteArray).length ([] : List Int).length 1 o_g10.out.sl o_gp10.out.sl (by simp) (by simp) (by omega) (by omega)).mono ?_
 rintro e W11 ⟨rfl, b11⟩
 have z11 := b11.size
 have B11 := Ke.b B10 b11
 have r_w011 := Ke.r r_w010 b11
 have r_g011 := Ke.r r_g010 b11
 have r_h011 := Ke.r r_h010 b11
 have o_g11 := Ke.o o_g10 b11
 have o_gp11 := Ke.o o_gp10 b11
 have o_h11 := Ke.o o_h10 b11
 have o_hp11 := Ke.o o_hp10 b11
 have c_w011 := Ke.c r_w011
 have c_g011 := Ke.c r_g011
 have c_h011 := Ke.c r_h011
 clear r_w010 c_w010 r_g010 c_g010 r_h010 c_h010 o_g10 o_gp10 o_h10 o_hp10
 go_wp2
 go_ret
 exact ⟨rfl, B11.out⟩
end Go.Proofs.YtchonoonclllbaaDoor.Mi
