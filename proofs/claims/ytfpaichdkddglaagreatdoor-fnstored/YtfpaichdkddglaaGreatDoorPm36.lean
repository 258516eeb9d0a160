/- Texts in one: LhO, KpG, KpH, LhC, HfB. -/
import Derived.Test.YtfpaichdkddglaaGreatDoorPm35
import Derived.Test.YtfpaichdkddglaaGreatDoorPm26
import Derived.Test.YtfpaichdkddglaaGreatDoorPm33
import Derived.Test.YtfpaichdkddglaaGreatDoorPm10
import Derived.Test.YtfpaichdkddglaaGreatDoorPm28
import Derived.Test.YtfpaichdkddglaaGreatDoorPm13
import Derived.Test.YtfpaichdkddglaaGreatDoorPm25
namespace Go.Proofs.YtfpaichdkddglaaGreatDoor.Lg
open Go.RowKit Go.Proofs.YtfpaichdkddglaaGreatDoor.Mem Go.Proofs.YtfpaichdkddglaaGreatDoor.Laws Go.Proofs.YtfpaichdkddglaaGreatDoor.Bytes Go.Proofs.YtfpaichdkddglaaGreatDoor.Sha Go.Proofs.YtfpaichdkddglaaGreatDoor.Tr Go.Proofs.YtfpaichdkddglaaGreatDoor.He
set_option linter.unusedVariables false
set_option linter.unusedSimpArgs false
set_option maxRecDepth 1000000 in
set_option maxHeartbeats 4000000 in
theorem ownlog_impl (w : World) (v : Value) (l : List ByteArray) (h : Hd) (hs : Sl w v (ss l)) (hl : l.length ≤ 1000000000) (hz : ∀ s ∈ l, s.size ≤ 1000000000000) (hh : h.r.size ≤ 1000000000000) :
  Calls Tryz.prog 30 #[.agg #[v, .int .i64 h.n, .string h.r]] w fun e w' => ∃ v', e = .returned (.agg #[v', .int .i64 h.n, .string h.r]) ∧ Own w' w.heap.size w'.heap.size 9 v' (ss l) ∧ Below w.heap.size w w' := by
 have HS : Hid (Sl w v (ss l)) := hs
 obtain ⟨ao, cap, rfl, hcap⟩ := hs.form
 rw [ss_len] at *
 clear hs
 have B0 : Hid (Below w.heap.size w w) := Below.refl _ _
 obtain ⟨W1, HW1, b1, y1, hS1, r_a1, r_res1⟩ : ∃ X, Hid (((w.alloc (.cells #[.slice ao l.length cap, .int .i64 h.n, .string h.r] 31)).alloc (.cells #[.slice none 0 0, .int .i64 0, .string ⟨#[]⟩] 31)) = X) ∧ Below w.heap.size w X ∧ w.heap.size + 2 ≤ X.heap.size ∧ Hid (X.heap.size = w.heap.size + 1 + 1) ∧ Hid (X.heap[w.heap.size]? = some (.cells #[.slice ao l.length cap, .int .i64 h.n, .string h.r] 31 (0, 0))) ∧ Hid (X.heap[w.heap.size + 1]? = some (.cells #[.slice none 0 0, .int .i64 0, .string ⟨#[]⟩] 31 (0, 0))) := ⟨_, rfl, (((Below.refl _ _).alloc (Nat.le_refl _) _).alloc (by simp) _), by simp, by show _ = _; simp, (by show _ = _; exact alloc_nth2_0 w _ _), (by show _ = _; exact alloc_nth2_1 w _ _)⟩
 have z1 : w.heap.size ≤ W1.heap.size := b1.size
 have B1 : Hid (Below w.heap.size w W1) := B0.out.trans (b1.mono B0.out.size)
 have c_a1_0 : W1.cell? ⟨w.heap.size, 0, none⟩ = some (.slice ao l.length cap) := row_at r_a1.out 0
 have c_a1_1 : W1.cell? ⟨w.heap.size, 1, none⟩ = some (.int .i64 h.n) := row_at r_a1.out 1
 have c_a1_2 : W1.cell? ⟨w.heap.size, 2, none⟩ = some (.string h.r) := row_at r_a1.out 2
 have q1 : ∀ W v1, Sl W v1 (ss l) → _ := fun W v1 h1 => Ed.texts_impl W v1 l h1 hl hz
 have q2 : ∀ W, _ := fun W => own_impl W h hh
 clear hz
 go_enter Tryz.func30, Tryz.ntmps30
 go_wp2_with fail
 rw [HW1.out]
 refine wp_region_held_drew (S := fun w' => w'.cell? ⟨w.heap.size, 0, none⟩ = some (.slice ao l.length cap) ∧ w'.cell? ⟨w.heap.size, 1, none⟩ = some (.int .i64 h.n) ∧ w'.cell? ⟨w.heap.size, 2, none⟩ = some (.string h.r)) (by kernel_rfl) ⟨c_a1_0, c_a1_1, c_a1_2⟩ (fun hHeld => ?_)
 (refine wpAnyH_take (i := 0) (v := ?v0x1) rfl (by kernel_rfl) (by kernel_rfl) (by kernel_rfl) (fun _ _ _ h => h) (Or.inl ⟨by rfl, ?hy0x1⟩) (by assumption) ?rest0x1; case hy0x1 => (intro w hSw; (try dsimp only at hSw); go_split_ands; go_simp; (try with_reducible rfl)))
 try simp only [Act.put, pu1, pu2, pu3, pu4, pu5, pu6]
 (refine wpAnyH_take (i := 1) (v := ?v1x2) rfl (by kernel_rfl) (by kernel_rfl) (by kernel_rfl) (fun _ _ _ h => h) (Or.inl ⟨by rfl, ?hy1x2⟩) (by assumption) ?rest1x2; case hy1x2 => (intro w hSw; (try dsimp only at hSw); go_split_ands; go_simp; (try with_reducible rfl)))
 try simp only [Act.put, pu1, pu2, pu3, pu4, pu5, pu6]
 (refine wpAnyH_take (i := 3) (v := ?v3x3) rfl (by kernel_rfl) (by kernel_rfl) (by kernel_rfl) (fun _ _ _ h => h) (Or.inl ⟨by rfl, ?hy3x3⟩) (by assumption) ?rest3x3; case hy3x3 => (intro w hSw; (try dsimp only at hSw); go_split_ands; go_simp; (try with_reducible rfl)))
 try simp only [Act.put, pu1, pu2, pu3, pu4, pu5, pu6]
 (refine wpAnyH_take (i := 4) (v := ?v4x4) rfl (by kernel_rfl) (by kernel_rfl) (by kernel_rfl) (fun _ _ _ h => h) (Or.inl ⟨by rfl, ?hy4x4⟩) (by assumption) ?rest4x4; case hy4x4 => (intro w hSw; (try dsimp only at hSw); go_split_ands; go_simp; (try with_reducible rfl)))
 try simp only [Act.put, pu1, pu2, pu3, pu4, pu5, pu6]
 refine wpAnyH_ready (rs := [2]) (by kernel_rfl) (by simp) ?_
 refine AllReadyH.cons rfl (fun K hK => ?_) AllReadyH.nil
 go_simp
 refine (q1 W1.drew _ (Sl.later (w := W1) (HS.out.later B1.out) (Below.drew (Below.refl _ _)))).mono ?_
 rintro e W2 ⟨v_s, rfl, o_s2, b2⟩
 have b2 : Below W1.heap.size W1 W2 := (Below.drew (Below.refl _ _)).trans b2
 refine hK.out _ _ ⟨(keepR (W := W1) hHeld.1 b2), (keepR (W := W1) hHeld.2.1 b2), (keepR (W := W1) hHeld.2.2 b2)⟩ (fun hHeld => ?_)
 clear hK K
 try simp only [Act.put, pu1, pu2, pu3, pu4, pu5, pu6]
 have o_s2 : Own W2 W1.heap.size W2.heap.size 9 _ _ := o_s2
 obtain ⟨ao_s, L_s, cap_s, rfl, hL_s, hM_s⟩ := o_s2.form
 have o_s2 : Hid (Own W2 W1.heap.size W2.heap.size 9 (.slice ao_s L_s cap_s) (ss l)) := o_s2
 clear hL_s hM_s
 have B2 : Hid (Below w.heap.size w W2) := B1.out.trans (b2.mono B1.out.size)
 have r_res2 : Hid (W2.heap[w.heap.size + 1]? = some (.cells #[.slice none 0 0, .int .i64 0, .string ⟨#[]⟩] 31 (0, 0))) := rowKeep r_res1.out b2
 clear r_a1 c_a1_0 c_a1_1 c_a1_2 r_res1
 refine wpAnyH_ready (rs := [5]) (by kernel_rfl) (by simp) ?_
 refine AllReadyH.cons rfl (fun K hK => ?_) AllReadyH.nil
 go_simp
 refine (q2 W2).mono ?_
 rintro e W3 ⟨rfl, b3⟩
 refine hK.out _ _ ⟨(keepR (W := W2) hHeld.1 b3), (keepR (W := W2) hHeld.2.1 b3), (keepR (W := W2) hHeld.2.2 b3)⟩ (fun hHeld => ?_)
 clear hK K
 try simp only [Act.put, pu1, pu2, pu3, pu4, pu5, pu6]
 have z3 : W2.heap.size ≤ W3.heap.size := b3.size
 have B3 : Hid (Below w.heap.size w W3) := B2.out.trans (b3.mono B2.out.size)
 have r_res3 : Hid (W3.heap[w.heap.size + 1]? = some (.cells #[.slice none 0 0, .int .i64 0, .string ⟨#[]⟩] 31 (0, 0))) := rowKeep r_res2.out b3
 have o_s3 : Hid (Own W3 (W1.heap.size) (W2.heap.size) 9 (.slice ao_s L_s cap_s) (ss l)) := Own.later o_s2.out b3 (by omega)
 clear r_res2 o_s2
 (refine wpAnyH_take (i := 6) (v := ?v6x5) rfl (by kernel_rfl) (by kernel_rfl) (by kernel_rfl) (fun _ _ _ h => h) (Or.inl ⟨by rfl, ?hy6x5⟩) (by assumption) ?rest6x5; case hy6x5 => (intro w hSw; (try dsimp only at hSw); go_split_ands; go_simp; (try with_reducible rfl)))
 try simp only [Act.put, pu1, pu2, pu3, pu4, pu5, pu6]
 refine wpAnyH_ready (rs := [7]) (by kernel_rfl) (by simp) ?_
 refine AllReadyH.cons rfl (fun K hK => ?_) AllReadyH.nil
 rw [if_pos (by rfl)]
 refine wp_store_row 31 _ _ rfl (w.heap.size + 1) (lc (.slice ao_s L_s cap_s) h) rfl rfl 31 _ r_res3.out (sizeL _ _) rfl (oneL _ rfl) ?_
 refine hK.out _ _ ⟨(cell_row (by show w.heap.size ≠ w.heap.size + 1; omega) hHeld.1), (cell_row (by show w.heap.size ≠ w.heap.size + 1; omega) hHeld.2.1), (cell_row (by show w.heap.size ≠ w.heap.size + 1; omega) hHeld.2.2)⟩ (fun hHeld => ?_)
 clear hK K
 refine wpAnyH_done (by kernel_rfl) ?_ _
 clear hHeld
 go_wp2
 refine bodyPost_ret (v := .agg (lc (.slice ao_s L_s cap_s) h)) (results_cell_row rfl _ _ (w.heap.size + 1) 31 _ (0, 0) _ rfl (setRow_heap _ _ _ _ _ (0, 0) r_res3.out) Tryz.underlying31 rfl (sizeL _ _)) rfl ⟨.slice ao_s L_s cap_s, rfl, (Own.setRow o_s3.out _ (by omega)).mono (by omega) (by rw [size_setRow]; omega), below_setRow B3.out (by omega) _⟩
end Go.Proofs.YtfpaichdkddglaaGreatDoor.Lg
namespace Go.Proofs.YtfpaichdkddglaaGreatDoor.Sr
open Go.RowKit Go.Proofs.YtfpaichdkddglaaGreatDoor.Mem Go.Proofs.YtfpaichdkddglaaGreatDoor.Laws Go.Proofs.YtfpaichdkddglaaGreatDoor.Bytes Go.Proofs.YtfpaichdkddglaaGreatDoor.Sha Go.Proofs.YtfpaichdkddglaaGreatDoor.Tr Go.Proofs.YtfpaichdkddglaaGreatDoor.He Go.Proofs.YtfpaichdkddglaaGreatDoor.Lg
set_option linter.unusedVariables false
set_option linter.unusedSimpArgs false
theorem none5G (w : World) (lo hi : Nat) : Own w lo hi 5 (.slice none 0 0) (bs []) := ⟨⟨rfl, Or.inl ⟨rfl, rfl⟩⟩, fun g hg => by simp [Value.ownBlock] at hg⟩
set_option maxRecDepth 1000000 in
set_option maxHeartbeats 4000000 in
theorem storenew_impl (w : World) (hG : Glob w) : Calls Tryz.prog 12 #[] w fun e w' => ∃ v' vb', e = .returned (.agg #[v', .int .i64 (headOf []).n, .string (headOf []).r, vb', .int .i64 0]) ∧ Own w' w.heap.size w'.heap.size 9 v' (ss []) ∧ Own w' w.heap.size w'.heap.size 5 vb' (bs []) ∧ Below w.heap.size w w' := by
 have HG : Hid (Glob w) := hG
 clear hG
 have B0 : Hid (Below w.heap.size w w) := Below.refl _ _
 obtain ⟨W1, HW1, b1, y1, hS1, r_res1⟩ : ∃ X, Hid ((w.alloc (.cells #[.slice none 0 0, .int .i64 0, .string ⟨#[]⟩, .slice none 0 0, .int .i64 0] 37)) = X) ∧ Below w.heap.size w X ∧ w.heap.size + 1 ≤ X.heap.size ∧ Hid (X.heap.size = w.heap.size + 1) ∧ Hid (X.heap[w.heap.size]? = some (.cells #[.slice none 0 0, .int .i64 0, .string ⟨#[]⟩, .slice none 0 0, .int .i64 0] 37 (0, 0))) := ⟨_, rfl, ((Below.refl _ _).alloc (Nat.le_refl _) _), by simp, by show _ = _; simp, (by show _ = _; exact alloc_nth1_0 w _)⟩
 have z1 : w.heap.size ≤ W1.heap.size := b1.size
 have B1 : Hid (Below w.heap.size w W1) := B0.out.trans (b1.mono B0.out.size)
 obtain ⟨M, hM⟩ : ∃ M, headOf [] = M := ⟨_, rfl⟩
 have q : ∀ W, Glob W → _ := fun W h0 => lognew_impl W h0
 simp only [hM] at q
 rw [hM]
 clear hM
 go_enter Tryz.func12, Tryz.ntmps12
 go_wp2_with fail
 rw [HW1.out]
 refine (q W1 (HG.out.later B1.out)).mono ?_
 rintro e W2 ⟨v_s, rfl, o_s2, b2⟩
 obtain ⟨ao_s, L_s, cap_s, rfl, hL_s, hM_s⟩ := o_s2.form
 have o_s2 : Hid (Own W2 W1.heap.size W2.heap.size 9 (.slice ao_s L_s cap_s) (ss [])) := o_s2
 clear hL_s hM_s
 have B2 : Hid (Below w.heap.size w W2) := B1.out.trans (b2.mono B1.out.size)
 have r_res2 : Hid (W2.heap[w.heap.size]? = some (.cells #[.slice none 0 0, .int .i64 0, .string ⟨#[]⟩, .slice none 0 0, .int .i64 0] 37 (0, 0))) := rowKeep r_res1.out b2
 clear r_res1
 go_wp2_with (refine wpList_store_row rfl 37 _ _ rfl (w.heap.size) (sc (.slice ao_s L_s cap_s) M (.slice none 0 0) 0) rfl rfl 37 _ r_res2.out (sizeS _ _ _ _) rfl (oneS _ _ rfl rfl) ?_)
 refine bodyPost_ret (v := .agg (sc (.slice ao_s L_s cap_s) M (.slice none 0 0) 0)) (results_cell_row rfl _ _ (w.heap.size) 37 _ (0, 0) _ rfl (setRow_heap _ _ _ _ _ (0, 0) r_res2.out) Tryz.underlying37 rfl (sizeS _ _ _ _)) rfl ⟨_, _, rfl, (Own.setRow o_s2.out _ (by omega)).mono (by omega) (by rw [size_setRow]; omega), none5G _ _ _, below_setRow B2.out (by omega) _⟩
set_option maxRecDepth 1000000 in
set_option maxHeartbeats 4000000 in
theorem ownstore_impl (w : World) (v vb : Value) (st : Sto) (hs : Sl w v (ss st.l)) (hb : Sl w vb (bs st.b)) (hl : st.l.length ≤ 1000000000) (hbl : st.b.length ≤ 1000000000) (hz : ∀ s ∈ st.l, s.size ≤ 1000000000000) (hh : st.h.r.size ≤ 1000000000000) :
  Calls Tryz.prog 32 #[.agg #[v, .int .i64 st.h.n, .string st.h.r, vb, .int .i64 st.s]] w fun e w' => ∃ v' vb', e = .returned (.agg #[v', .int .i64 st.h.n, .string st.h.r, vb', .int .i64 st.s]) ∧ Own w' w.heap.size w'.heap.size 9 v' (ss st.l) ∧ Own w' w.heap.size w'.heap.size 5 vb' (bs st.b) ∧ Below w.heap.size w w' := by
 obtain ⟨l, h, b, s⟩ := st
 simp only at *
 have HS : Hid (Sl w v (ss l)) := hs
 have HSB : Hid (Sl w vb (bs b)) := hb
 obtain ⟨ao0, cap0, rfl, hc0⟩ := hs.form
 obtain ⟨ao1, cap1, rfl, hc1⟩ := hb.form
 simp only [ss_len, bs_len] at *
 clear hs hb
 have B0 : Hid (Below w.heap.size w w) := Below.refl _ _
 obtain ⟨W1, HW1, b1, y1, hS1, r_a1, r_res1⟩ : ∃ X, Hid (((w.alloc (.cells #[.slice ao0 l.length cap0, .int .i64 h.n, .string h.r, .slice ao1 b.length cap1, .int .i64 s] 37)).alloc (.cells #[.slice none 0 0, .int .i64 0, .string ⟨#[]⟩, .slice none 0 0, .int .i64 0] 37)) = X) ∧ Below w.heap.size w X ∧ w.heap.size + 2 ≤ X.heap.size ∧ Hid (X.heap.size = w.heap.size + 1 + 1) ∧ Hid (X.heap[w.heap.size]? = some (.cells #[.slice ao0 l.length cap0, .int .i64 h.n, .string h.r, .slice ao1 b.length cap1, .int .i64 s] 37 (0, 0))) ∧ Hid (X.heap[w.heap.size + 1]? = some (.cells #[.slice none 0 0, .int .i64 0, .string ⟨#[]⟩, .slice none 0 0, .int .i64 0] 37 (0, 0))) := ⟨_, rfl, (((Below.refl _ _).alloc (Nat.le_refl _) _).alloc (by simp) _), by simp, by show _ = _; simp, (by show _ = _; exact alloc_nth2_0 w _ _), (by show _ = _; exact alloc_nth2_1 w _ _)⟩
 have z1 : w.heap.size ≤ W1.heap.size := b1.size
 have B1 : Hid (Below w.heap.size w W1) := B0.out.trans (b1.mono B0.out.size)
 have c_a1_0 : W1.cell? ⟨w.heap.size, 0, none⟩ = some (.slice ao0 l.length cap0) := row_at r_a1.out 0
 have c_a1_1 : W1.cell? ⟨w.heap.size, 1, none⟩ = some (.int .i64 h.n) := row_at r_a1.out 1
 have c_a1_2 : W1.cell? ⟨w.heap.size, 2, none⟩ = some (.string h.r) := row_at r_a1.out 2
 have c_a1_3 : W1.cell? ⟨w.heap.size, 3, none⟩ = some (.slice ao1 b.length cap1) := row_at r_a1.out 3
 have c_a1_4 : W1.cell? ⟨w.heap.size, 4, none⟩ = some (.int .i64 s) := row_at r_a1.out 4
 have q1 : ∀ W v1, Sl W v1 (ss l) → _ := fun W v1 h1 => ownlog_impl W v1 l h h1 hl hz hh
 have q2 : ∀ W v1, Sl W v1 (bs b) → _ := fun W v1 h1 => Puts.own_any W v1 b h1 (by omega)
 clear hz
 go_enter Tryz.func32, Tryz.ntmps32
 go_wp2_with fail
 rw [HW1.out]
 refine wp_region_held_drew (S := fun w' => w'.cell? ⟨w.heap.size, 0, none⟩ = some (.slice ao0 l.length cap0) ∧ w'.cell? ⟨w.heap.size, 1, none⟩ = some (.int .i64 h.n) ∧ w'.cell? ⟨w.heap.size, 2, none⟩ = some (.string h.r) ∧ w'.cell? ⟨w.heap.size, 3, none⟩ = some (.slice ao1 b.length cap1) ∧ w'.cell? ⟨w.heap.size, 4, none⟩ = some (.int .i64 s)) (by kernel_rfl) ⟨c_a1_0, c_a1_1, c_a1_2, c_a1_3, c_a1_4⟩ (fun hHeld => ?_)
 (refine wpAnyH_take (i := 0) (v := ?v0x9) rfl (by kernel_rfl) (by kernel_rfl) (by kernel_rfl) (fun _ _ _ h => h) (Or.inl ⟨by rfl, ?hy0x9⟩) (by assumption) ?rest0x9; case hy0x9 => (intro w hSw; (try dsimp only at hSw); go_split_ands; go_simp; (try with_reducible rfl)))
 try simp only [Act.put, pu1, pu2, pu3, pu4, pu5, pu6]
 (refine wpAnyH_take (i := 1) (v := ?v1x10) rfl (by kernel_rfl) (by kernel_rfl) (by kernel_rfl) (fun _ _ _ h => h) (Or.inl ⟨by rfl, ?hy1x10⟩) (by assumption) ?rest1x10; case hy1x10 => (intro w hSw; (try dsimp only at hSw); go_split_ands; go_simp; (try with_reducible rfl)))
 try simp only [Act.put, pu1, pu2, pu3, pu4, pu5, pu6]
 (refine wpAnyH_take (i := 3) (v := ?v3x11) rfl (by kernel_rfl) (by kernel_rfl) (by kernel_rfl) (fun _ _ _ h => h) (Or.inl ⟨by rfl, ?hy3x11⟩) (by assumption) ?rest3x11; case hy3x11 => (intro w hSw; (try dsimp only at hSw); go_split_ands; go_simp; (try with_reducible rfl)))
 try simp only [Act.put, pu1, pu2, pu3, pu4, pu5, pu6]
 (refine wpAnyH_take (i := 4) (v := ?v4x12) rfl (by kernel_rfl) (by kernel_rfl) (by kernel_rfl) (fun _ _ _ h => h) (Or.inl ⟨by rfl, ?hy4x12⟩) (by assumption) ?rest4x12; case hy4x12 => (intro w hSw; (try dsimp only at hSw); go_split_ands; go_simp; (try with_reducible rfl)))
 try simp only [Act.put, pu1, pu2, pu3, pu4, pu5, pu6]
 (refine wpAnyH_take (i := 6) (v := ?v6x13) rfl (by kernel_rfl) (by kernel_rfl) (by kernel_rfl) (fun _ _ _ h => h) (Or.inl ⟨by rfl, ?hy6x13⟩) (by assumption) ?rest6x13; case hy6x13 => (intro w hSw; (try dsimp only at hSw); go_split_ands; go_simp; (try with_reducible rfl)))
 try simp only [Act.put, pu1, pu2, pu3, pu4, pu5, pu6]
 (refine wpAnyH_take (i := 7) (v := ?v7x14) rfl (by kernel_rfl) (by kernel_rfl) (by kernel_rfl) (fun _ _ _ h => h) (Or.inl ⟨by rfl, ?hy7x14⟩) (by assumption) ?rest7x14; case hy7x14 => (intro w hSw; (try dsimp only at hSw); go_split_ands; go_simp; (try with_reducible rfl)))
 try simp only [Act.put, pu1, pu2, pu3, pu4, pu5, pu6]
 refine wpAnyH_ready (rs := [2]) (by kernel_rfl) (by simp) ?_
 refine AllReadyH.cons rfl (fun K hK => ?_) AllReadyH.nil
 go_simp
 refine (q1 W1.drew _ (Sl.later (w := W1) (HS.out.later B1.out) (Below.drew (Below.refl _ _)))).mono ?_
 rintro e W2 ⟨v_s, rfl, o_s2, b2⟩
 have b2 : Below W1.heap.size W1 W2 := (Below.drew (Below.refl _ _)).trans b2
 refine hK.out _ _ ⟨(keepR (W := W1) hHeld.1 b2), (keepR (W := W1) hHeld.2.1 b2), (keepR (W := W1) hHeld.2.2.1 b2), (keepR (W := W1) hHeld.2.2.2.1 b2), (keepR (W := W1) hHeld.2.2.2.2 b2)⟩ (fun hHeld => ?_)
 clear hK K
 try simp only [Act.put, pu1, pu2, pu3, pu4, pu5, pu6]
 have o_s2 : Own W2 W1.heap.size W2.heap.size 9 _ _ := o_s2
 obtain ⟨ao_s, L_s, cap_s, rfl, hL_s, hM_s⟩ := o_s2.form
 have o_s2 : Hid (Own W2 W1.heap.size W2.heap.size 9 (.slice ao_s L_s cap_s) (ss l)) := o_s2
 clear hL_s hM_s
 have z2 : W1.heap.size ≤ W2.heap.size := b2.size
 have B2 : Hid (Below w.heap.size w W2) := B1.out.trans (b2.mono B1.out.size)
 have r_res2 : Hid (W2.heap[w.heap.size + 1]? = some (.cells #[.slice none 0 0, .int .i64 0, .string ⟨#[]⟩, .slice none 0 0, .int .i64 0] 37 (0, 0))) := rowKeep r_res1.out b2
 clear r_a1 c_a1_0 c_a1_1 c_a1_2 c_a1_3 c_a1_4 r_res1
 refine wpAnyH_ready (rs := [5]) (by kernel_rfl) (by simp) ?_
 refine AllReadyH.cons rfl (fun K hK => ?_) AllReadyH.nil
 go_simp
 refine (q2 W2 _ (HSB.out.later B2.out)).mono ?_
 rintro e W3 ⟨v_p, rfl, o_p3, b3⟩
 refine hK.out _ _ ⟨(keepR (W := W2) hHeld.1 b3), (keepR (W := W2) hHeld.2.1 b3), (keepR (W := W2) hHeld.2.2.1 b3), (keepR (W := W2) hHeld.2.2.2.1 b3), (keepR (W := W2) hHeld.2.2.2.2 b3)⟩ (fun hHeld => ?_)
 clear hK K
 try simp only [Act.put, pu1, pu2, pu3, pu4, pu5, pu6]
 obtain ⟨ao_p, L_p, cap_p, rfl, hL_p, hM_p⟩ := o_p3.form
 have o_p3 : Hid (Own W3 W2.heap.size W3.heap.size 5 (.slice ao_p L_p cap_p) (bs b)) := o_p3
 clear hL_p hM_p
 have z3 : W2.heap.size ≤ W3.heap.size := b3.size
 have B3 : Hid (Below w.heap.size w W3) := B2.out.trans (b3.mono B2.out.size)
 have r_res3 : Hid (W3.heap[w.heap.size + 1]? = some (.cells #[.slice none 0 0, .int .i64 0, .string ⟨#[]⟩, .slice none 0 0, .int .i64 0] 37 (0, 0))) := rowKeep r_res2.out b3
 have o_s3 : Hid (Own W3 (W1.heap.size) (W2.heap.size) 9 (.slice ao_s L_s cap_s) (ss l)) := Own.later o_s2.out b3 (by omega)
 clear r_res2 o_s2
 (refine wpAnyH_take (i := 8) (v := ?v8x15) rfl (by kernel_rfl) (by kernel_rfl) (by kernel_rfl) (fun _ _ _ h => h) (Or.inl ⟨by rfl, ?hy8x15⟩) (by assumption) ?rest8x15; case hy8x15 => (intro w hSw; (try dsimp only at hSw); go_split_ands; go_simp; (try with_reducible rfl)))
 try simp only [Act.put, pu1, pu2, pu3, pu4, pu5, pu6]
 refine wpAnyH_ready (rs := [9]) (by kernel_rfl) (by simp) ?_
 refine AllReadyH.cons rfl (fun K hK => ?_) AllReadyH.nil
 rw [if_pos (by rfl)]
 refine wp_store_row 37 _ _ rfl (w.heap.size + 1) (sc (.slice ao_s L_s cap_s) h (.slice ao_p L_p cap_p) s) rfl rfl 37 _ r_res3.out (sizeS _ _ _ _) rfl (oneS _ _ rfl rfl) ?_
 refine hK.out _ _ ⟨(cell_row (by show w.heap.size ≠ w.heap.size + 1; omega) hHeld.1), (cell_row (by show w.heap.size ≠ w.heap.size + 1; omega) hHeld.2.1), (cell_row (by show w.heap.size ≠ w.heap.size + 1; omega) hHeld.2.2.1), (cell_row (by show w.heap.size ≠ w.heap.size + 1; omega) hHeld.2.2.2.1), (cell_row (by show w.heap.size ≠ w.heap.size + 1; omega) hHeld.2.2.2.2)⟩ (fun hHeld => ?_)
 clear hK K
 refine wpAnyH_done (by kernel_rfl) ?_ _
 clear hHeld
 go_wp2
 refine bodyPost_ret (v := .agg (sc (.slice ao_s L_s cap_s) h (.slice ao_p L_p cap_p) s)) (results_cell_row rfl _ _ (w.heap.size + 1) 37 _ (0, 0) _ rfl (setRow_heap _ _ _ _ _ (0, 0) r_res3.out) Tryz.underlying37 rfl (sizeS _ _ _ _)) rfl ⟨.slice ao_s L_s cap_s, .slice ao_p L_p cap_p, rfl, (Own.setRow o_s3.out _ (by omega)).mono (by omega) (by rw [size_setRow]; omega), (Own.setRow o_p3.out _ (by omega)).mono (by omega) (by rw [size_setRow]; omega), below_setRow B3.out (by omega) _⟩
set_option maxRecDepth 1000000 in
set_option maxHeartbeats 4000000 in
theorem storeok_impl (w : World) (v vb : Value) (st : Sto) (hG : Glob w) (hN : NoC w) (hs : Sl w v (ss st.l)) (hb : Sl w vb (bs st.b)) (hby : Byt st.b) (hl : st.l.length ≤ 1000000000) (hbl : st.b.length ≤ 1000000000) (hz : ∀ s ∈ st.l, s.size ≤ 10000000000) :
  Calls Tryz.prog 15 #[.agg #[v, .int .i64 st.h.n, .string st.h.r, vb, .int .i64 st.s]] w fun e w' => e = .returned (.bool (storeOk st)) ∧ Below w.heap.size w w' := by
 obtain ⟨R, hR⟩ : ∃ R, storeOk st = R := ⟨_, rfl⟩
 have HR : Hid (storeOk st = R) := hR
 have HG : Hid (Glob w) := hG
 have HNC : Hid (NoC w) := hN
 rw [hR]
 obtain ⟨l, h, b, s⟩ := st
 simp only at *
 have HS : Hid (Sl w v (ss l)) := hs
 have HSB : Hid (Sl w vb (bs b)) := hb
 have HBY : Hid (Byt b) := hby
 obtain ⟨ao0, cap0, rfl, hc0⟩ := hs.form
 obtain ⟨ao1, cap1, rfl, hc1⟩ := hb.form
 simp only [ss_len, bs_len] at *
 clear hs hb hby hR hG hN
 have B0 : Hid (Below w.heap.size w w) := Below.refl _ _
 obtain ⟨W1, HW1, b1, y1, hS1, r_a1⟩ : ∃ X, Hid ((w.alloc (.cells #[.slice ao0 l.length cap0, .int .i64 h.n, .string h.r, .slice ao1 b.length cap1, .int .i64 s] 37)) = X) ∧ Below w.heap.size w X ∧ w.heap.size + 1 ≤ X.heap.size ∧ Hid (X.heap.size = w.heap.size + 1) ∧ Hid (X.heap[w.heap.size]? = some (.cells #[.slice ao0 l.length cap0, .int .i64 h.n, .string h.r, .slice ao1 b.length cap1, .int .i64 s] 37 (0, 0))) := ⟨_, rfl, ((Below.refl _ _).alloc (Nat.le_refl _) _), by simp, by show _ = _; simp, (by show _ = _; exact alloc_nth1_0 w _)⟩
 have B1 : Hid (Below w.heap.size w W1) := B0.out.trans (b1.mono B0.out.size)
 have q1 : ∀ W v1, Glob W → Sl W v1 (ss l) → _ := fun W v1 h0 h1 => logok_impl W v1 l h h0 h1 (by omega) hz
 have HLG : Hid (logOk l h = true → l.length ≤ 200) := fun q => (logOk_yes q).1
 obtain ⟨A, hA⟩ : ∃ A, logOk l h = A := ⟨_, rfl⟩
 simp only [hA] at q1
 have HA : Hid (logOk l h = A) := hA
 clear hA hz
 by_cases h6 : (60000 : Int) < (b.length : Int)
 ·
  have d6 : decide ((60000 : Int) < (b.length : Int)) = true := decide_eq_true h6
  have HO : Hid (R = false) := by
   show _ = _
   rw [← HR.out]
   exact storeOk_no _ (fun q => by have h1 := q.2.1; have h2 := q.2.2.1; have h3 := q.2.2.2; simp only at h1 h2 h3; omega)
  go_enter Tryz.func15, Tryz.ntmps15
  go_wp2
  go_ret
  exact ⟨by rw [HO.out]; rfl, by rw [HW1.out]; exact B1.out⟩
 ·
  have d6 : decide ((60000 : Int) < (b.length : Int)) = false := decide_eq_false h6
  by_cases h7 : s < 0
  ·
   have d7 : decide (s < 0) = true := decide_eq_true h7
   have HO : Hid (R = false) := by
    show _ = _
    rw [← HR.out]
    exact storeOk_no _ (fun q => by have h1 := q.2.1; have h2 := q.2.2.1; have h3 := q.2.2.2; simp only at h1 h2 h3; omega)
   go_enter Tryz.func15, Tryz.ntmps15
   go_wp2
   go_ret
   exact ⟨by rw [HO.out]; rfl, by rw [HW1.out]; exact B1.out⟩
  ·
   have d7 : decide (s < 0) = false := decide_eq_false h7
   by_cases h8 : (b.length : Int) < s
   ·
    have d8 : decide ((b.length : Int) < s) = true := decide_eq_true h8
    have HO : Hid (R = false) := by
     show _ = _
     rw [← HR.out]
     exact storeOk_no _ (fun q => by have h1 := q.2.1; have h2 := q.2.2.1; have h3 := q.2.2.2; simp only at h1 h2 h3; omega)
    go_enter Tryz.func15, Tryz.ntmps15
    go_wp2
    go_ret
    exact ⟨by rw [HO.out]; rfl, by rw [HW1.out]; exact B1.out⟩
   ·
    have d8 : decide ((b.length : Int) < s) = false := decide_eq_false h8
    go_enter Tryz.func15, Tryz.ntmps15
    go_wp2_with fail
    rw [HW1.out]
    refine (q1 W1 _ (HG.out.later B1.out) (HS.out.later B1.out)).mono ?_
    rintro e W2 ⟨rfl, b2⟩
    have B2 : Hid (Below w.heap.size w W2) := B1.out.trans (b2.mono B1.out.size)
    have r_a2 : Hid (W2.heap[w.heap.size]? = some (.cells #[.slice ao0 l.length cap0, .int .i64 h.n, .string h.r, .slice ao1 b.length cap1, .int .i64 s] 37 (0, 0))) := rowKeep r_a1.out b2
    have c_a2_0 : W2.cell? ⟨w.heap.size, 0, none⟩ = some (.slice ao0 l.length cap0) := row_at r_a2.out 0
    have c_a2_3 : W2.cell? ⟨w.heap.size, 3, none⟩ = some (.slice ao1 b.length cap1) := row_at r_a2.out 3
    clear r_a1
    clear q1
    cases A
    ·
     have HO : Hid (R = false) := by
      show _ = _
      rw [← HR.out]
      exact storeOk_no _ (fun q => by have h1 := q.1; simp only at h1; rw [HA.out] at h1; cases h1)
     go_wp2
     go_ret
     exact ⟨by rw [HO.out]; rfl, B2.out⟩
    ·
     have h2 := HLG.out HA.out
     have HO : Hid (fin12 b l b.length 0 [] (headOf []) = R) := by
      show _ = _
      rw [← HR.out]
      exact (storeOk_fin ⟨l, h, b, s⟩ HA.out (by simp only; omega) (by simp only; omega)).symm
     have q3 := make_impl W2 _ _ b l (HG.out.later B2.out) (HNC.out.later B2.out) (HSB.out.later B2.out) HBY.out (by omega) (HS.out.later B2.out) h2
     rw [HO.out] at q3
     go_wp2_with fail
     refine (q3).mono ?_
     rintro e W3 ⟨rfl, b3⟩
     have B3 : Hid (Below w.heap.size w W3) := B2.out.trans (b3.mono B2.out.size)
     clear r_a2 c_a2_0 c_a2_3
     go_wp2
     go_ret
     exact ⟨by cases R <;> rfl, B3.out⟩
end Go.Proofs.YtfpaichdkddglaaGreatDoor.Sr
namespace Go.Proofs.YtfpaichdkddglaaGreatDoor.Is
open Go.RowKit Go.Extern.Stop Go.Stop Go.Extern
set_option linter.unusedVariables false
set_option linter.unusedSimpArgs false
set_option maxRecDepth 1000000 in
set_option maxHeartbeats 2000000 in
theorem is_nil (b : Addr) (w : World) :
  Calls Tryz.prog 55 #[.nilIface, .iface 169 (.pointer (some b))] w fun e w' => e = .returned (.bool false) ∧ Below w.heap.size w w' := by
 have hnl := run_eql_iface_nil_left (P := Tryz.prog) w 169 (.pointer (some b)) Tryz.underlying58
 go_enter Tryz.func55, Tryz.ntmps55
 go_wp2
 go_ret
 exact ⟨rfl, Below.refl _ _⟩
def Four (w : World) (a0 a1 a2 a3 : Addr) : Prop := At w 0 a0 ∧ At w 1 a1 ∧ At w 2 a2 ∧ At w 3 a3 ∧ a0 ≠ a1 ∧ a0 ≠ a2 ∧ a0 ≠ a3 ∧ a1 ≠ a2 ∧ a1 ≠ a3 ∧ a2 ≠ a3
theorem Four.later {w w' : World} {a0 a1 a2 a3 : Addr} (h : Four w a0 a1 a2 a3) (b : Below w.heap.size w w') : Four w' a0 a1 a2 a3 := by
 obtain ⟨h0, h1, h2, h3, hn⟩ := h
 exact ⟨h0.later b, h1.later b, h2.later b, h3.later b, hn⟩
abbrev refV (n : Int) (r : ByteArray) (a : Addr) : Value := .iface 85 (.agg #[.int .i64 n, .string r, .iface 169 (.pointer (some a))])
theorem At.is_other {w : World} {g g' : Nat} {a b : Addr} (n : Int) (r : ByteArray) (ha : At w g a) (hb : At w g' b) (hne : a ≠ b) :
  Calls Tryz.prog 55 #[refV n r a, .iface 169 (.pointer (some b))] w fun e w' => e = .returned (.bool false) ∧ Below w.heap.size w w' := by
 obtain ⟨_, ca, ta, h1⟩ := ha
 obtain ⟨_, cb, tb, h2⟩ := hb
 exact Is.is_other n r a b ca cb ta tb w hne h1 h2
set_option maxRecDepth 1000000 in
set_option maxHeartbeats 2000000 in
theorem code1 (w : World) (n : Int) (r : ByteArray) {a0 a1 a2 a3 : Addr} (h : Four w a0 a1 a2 a3) : Calls Tryz.prog 29 #[refV n r a0] w fun e w' => e = .returned (.int .i64 1) ∧ Below w.heap.size w w' := by
 obtain ⟨A0, A1, A2, A3, h01, h02, h03, h12, h13, h23⟩ := h
 have c0 := A0.1
 have B0 : Hid (Below w.heap.size w w) := Below.refl _ _
 go_enter Tryz.func29, Tryz.ntmps29
 go_wp2_with fail
 refine (is_same n r a0 w).mono ?_
 rintro e W1 ⟨rfl, b1⟩
 have B1 : Hid (Below w.heap.size w W1) := B0.out.trans (b1.mono B0.out.size)
 clear b1
 go_wp2
 go_ret
 exact ⟨rfl, B1.out⟩
set_option maxRecDepth 1000000 in
set_option maxHeartbeats 2000000 in
theorem code2 (w : World) (n : Int) (r : ByteArray) {a0 a1 a2 a3 : Addr} (h : Four w a0 a1 a2 a3) : Calls Tryz.prog 29 #[refV n r a1] w fun e w' => e = .returned (.int .i64 2) ∧ Below w.heap.size w w' := by
 obtain ⟨A0, A1, A2, A3, h01, h02, h03, h12, h13, h23⟩ := h
 have c0 := A0.1
 have B0 : Hid (Below w.heap.size w w) := Below.refl _ _
 have A0 : Hid (At w 0 a0) := A0
 have A1 : Hid (At w 1 a1) := A1
 have h01 : Hid (a0 ≠ a1) := h01
 go_enter Tryz.func29, Tryz.ntmps29
 go_wp2_with fail
 refine (At.is_other (w := w) n r (A1.out.later B0.out) (A0.out.later B0.out) h01.out.symm).mono ?_
 rintro e W1 ⟨rfl, b1⟩
 have B1 : Hid (Below w.heap.size w W1) := B0.out.trans (b1.mono B0.out.size)
 have c1 : W1.cell? ⟨1, 0, none⟩ = some (.iface 169 (.pointer (some a1))) := (A1.out.later B1.out).1
 clear b1
 go_wp2_with fail
 refine (is_same n r a1 W1).mono ?_
 rintro e W2 ⟨rfl, b2⟩
 have B2 : Hid (Below w.heap.size w W2) := B1.out.trans (b2.mono B1.out.size)
 clear b2
 go_wp2
 go_ret
 exact ⟨rfl, B2.out⟩
set_option maxRecDepth 1000000 in
set_option maxHeartbeats 2000000 in
theorem code3 (w : World) (n : Int) (r : ByteArray) {a0 a1 a2 a3 : Addr} (h : Four w a0 a1 a2 a3) : Calls Tryz.prog 29 #[refV n r a2] w fun e w' => e = .returned (.int .i64 3) ∧ Below w.heap.size w w' := by
 obtain ⟨A0, A1, A2, A3, h01, h02, h03, h12, h13, h23⟩ := h
 have c0 := A0.1
 have B0 : Hid (Below w.heap.size w w) := Below.refl _ _
 have A0 : Hid (At w 0 a0) := A0
 have A1 : Hid (At w 1 a1) := A1
 have A2 : Hid (At w 2 a2) := A2
 have h02 : Hid (a0 ≠ a2) := h02
 have h12 : Hid (a1 ≠ a2) := h12
 go_enter Tryz.func29, Tryz.ntmps29
 go_wp2_with fail
 refine (At.is_other (w := w) n r (A2.out.later B0.out) (A0.out.later B0.out) h02.out.symm).mono ?_
 rintro e W1 ⟨rfl, b1⟩
 have B1 : Hid (Below w.heap.size w W1) := B0.out.trans (b1.mono B0.out.size)
 have c1 : W1.cell? ⟨1, 0, none⟩ = some (.iface 169 (.pointer (some a1))) := (A1.out.later B1.out).1
 clear b1
 go_wp2_with fail
 refine (At.is_other (w := W1) n r (A2.out.later B1.out) (A1.out.later B1.out) h12.out.symm).mono ?_
 rintro e W2 ⟨rfl, b2⟩
 have B2 : Hid (Below w.heap.size w W2) := B1.out.trans (b2.mono B1.out.size)
 have c2 : W2.cell? ⟨2, 0, none⟩ = some (.iface 169 (.pointer (some a2))) := (A2.out.later B2.out).1
 clear b2
 go_wp2_with fail
 refine (is_same n r a2 W2).mono ?_
 rintro e W3 ⟨rfl, b3⟩
 have B3 : Hid (Below w.heap.size w W3) := B2.out.trans (b3.mono B2.out.size)
 clear b3
 go_wp2
 go_ret
 exact ⟨rfl, B3.out⟩
set_option maxRecDepth 1000000 in
set_option maxHeartbeats 2000000 in
theorem code4 (w : World) (n : Int) (r : ByteArray) {a0 a1 a2 a3 : Addr} (h : Four w a0 a1 a2 a3) : Calls Tryz.prog 29 #[refV n r a3] w fun e w' => e = .returned (.int .i64 4) ∧ Below w.heap.size w w' := by
 obtain ⟨A0, A1, A2, A3, h01, h02, h03, h12, h13, h23⟩ := h
 have c0 := A0.1
 have B0 : Hid (Below w.heap.size w w) := Below.refl _ _
 have A0 : Hid (At w 0 a0) := A0
 have A1 : Hid (At w 1 a1) := A1
 have A2 : Hid (At w 2 a2) := A2
 have A3 : Hid (At w 3 a3) := A3
 have h03 : Hid (a0 ≠ a3) := h03
 have h13 : Hid (a1 ≠ a3) := h13
 have h23 : Hid (a2 ≠ a3) := h23
 go_enter Tryz.func29, Tryz.ntmps29
 go_wp2_with fail
 refine (At.is_other (w := w) n r (A3.out.later B0.out) (A0.out.later B0.out) h03.out.symm).mono ?_
 rintro e W1 ⟨rfl, b1⟩
 have B1 : Hid (Below w.heap.size w W1) := B0.out.trans (b1.mono B0.out.size)
 have c1 : W1.cell? ⟨1, 0, none⟩ = some (.iface 169 (.pointer (some a1))) := (A1.out.later B1.out).1
 clear b1
 go_wp2_with fail
 refine (At.is_other (w := W1) n r (A3.out.later B1.out) (A1.out.later B1.out) h13.out.symm).mono ?_
 rintro e W2 ⟨rfl, b2⟩
 have B2 : Hid (Below w.heap.size w W2) := B1.out.trans (b2.mono B1.out.size)
 have c2 : W2.cell? ⟨2, 0, none⟩ = some (.iface 169 (.pointer (some a2))) := (A2.out.later B2.out).1
 clear b2
 go_wp2_with fail
 refine (At.is_other (w := W2) n r (A3.out.later B2.out) (A2.out.later B2.out) h23.out.symm).mono ?_
 rintro e W3 ⟨rfl, b3⟩
 have B3 : Hid (Below w.heap.size w W3) := B2.out.trans (b3.mono B2.out.size)
 have c3 : W3.cell? ⟨3, 0, none⟩ = some (.iface 169 (.pointer (some a3))) := (A3.out.later B3.out).1
 clear b3
 go_wp2_with fail
 refine (is_same n r a3 W3).mono ?_
 rintro e W4 ⟨rfl, b4⟩
 have B4 : Hid (Below w.heap.size w W4) := B3.out.trans (b4.mono B3.out.size)
 clear b4
 go_wp2
 go_ret
 exact ⟨rfl, B4.out⟩
set_option maxRecDepth 1000000 in
set_option maxHeartbeats 2000000 in
theorem code0 (w : World) {a0 a1 a2 a3 : Addr} (h : Four w a0 a1 a2 a3) : Calls Tryz.prog 29 #[.nilIface] w fun e w' => e = .returned (.int .i64 0) ∧ Below w.heap.size w w' := by
 obtain ⟨A0, A1, A2, A3, h01, h02, h03, h12, h13, h23⟩ := h
 have c0 := A0.1
 have B0 : Hid (Below w.heap.size w w) := Below.refl _ _
 have A1 : Hid (At w 1 a1) := A1
 have A2 : Hid (At w 2 a2) := A2
 have A3 : Hid (At w 3 a3) := A3
 go_enter Tryz.func29, Tryz.ntmps29
 go_wp2_with fail
 refine (is_nil a0 w).mono ?_
 rintro e W1 ⟨rfl, b1⟩
 have B1 : Hid (Below w.heap.size w W1) := B0.out.trans (b1.mono B0.out.size)
 have c1 : W1.cell? ⟨1, 0, none⟩ = some (.iface 169 (.pointer (some a1))) := (A1.out.later B1.out).1
 clear b1
 go_wp2_with fail
 refine (is_nil a1 W1).mono ?_
 rintro e W2 ⟨rfl, b2⟩
 have B2 : Hid (Below w.heap.size w W2) := B1.out.trans (b2.mono B1.out.size)
 have c2 : W2.cell? ⟨2, 0, none⟩ = some (.iface 169 (.pointer (some a2))) := (A2.out.later B2.out).1
 clear b2
 go_wp2_with fail
 refine (is_nil a2 W2).mono ?_
 rintro e W3 ⟨rfl, b3⟩
 have B3 : Hid (Below w.heap.size w W3) := B2.out.trans (b3.mono B2.out.size)
 have c3 : W3.cell? ⟨3, 0, none⟩ = some (.iface 169 (.pointer (some a3))) := (A3.out.later B3.out).1
 clear b3
 go_wp2_with fail
 refine (is_nil a3 W3).mono ?_
 rintro e W4 ⟨rfl, b4⟩
 have B4 : Hid (Below w.heap.size w W4) := B3.out.trans (b4.mono B3.out.size)
 clear b4
 go_wp2
 go_ret
 exact ⟨rfl, B4.out⟩
end Go.Proofs.YtfpaichdkddglaaGreatDoor.Is
namespace Go.Proofs.YtfpaichdkddglaaGreatDoor.He
open Go.RowKit Go.Proofs.YtfpaichdkddglaaGreatDoor.Mem Go.Proofs.YtfpaichdkddglaaGreatDoor.Laws Go.Proofs.YtfpaichdkddglaaGreatDoor.Bytes Go.Proofs.YtfpaichdkddglaaGreatDoor.Sha Go.Proofs.YtfpaichdkddglaaGreatDoor.Tr
set_option linter.unusedVariables false
set_option linter.unusedSimpArgs false
theorem pk_one {a b : Hd} (h : eqH a b = true) : pk a b = 1 := by unfold pk; rw [if_pos h]
theorem pk_not {a b : Hd} (h : ¬ eqH a b = true) : (pk a b == 1) = false := by
 unfold pk
 rw [if_neg h, beq_eq_false_iff_ne]
 split <;> decide
theorem keepA {W : World} {p : Addr} {x : Value} (h : W.cell? p = some x) (o : Obj) : (W.alloc o).cell? p = some x := keepH h ((Below.refl _ _).alloc (Nat.le_refl _) o)
set_option maxRecDepth 1000000 in
set_option maxHeartbeats 2000000 in
theorem signed_impl (w : World) (v : Value) (t : List Hd) (h : Hd) (hs : Sh w v t) (hx : t.length ≤ 1000000000000) :
  Calls Tryz.prog 53 #[v, .agg #[.int .i64 h.n, .string h.r]] w fun e w' => e = .returned (.bool (signed t h)) ∧ Below w.heap.size w w' := by
 obtain ⟨W, hW, r0, bW, yW⟩ : ∃ W, Hid (w.alloc (.cells #[.int .i64 h.n, .string h.r] 28) = W) ∧ W.heap[w.heap.size]? = some (.cells (hc h) 28 (0, 0)) ∧ Below w.heap.size w W ∧ w.heap.size + 1 ≤ W.heap.size := ⟨_, rfl, heap_alloc_new w _, (Below.refl _ _).alloc (Nat.le_refl _) _, by simp⟩
 have HS : Hid (Sh W v t) := hs.later bW
 have HR : Hid (W.heap[w.heap.size]? = some (.cells (hc h) 28 (0, 0))) := r0
 have HBW : Hid (Below w.heap.size w W) := bW
 obtain ⟨ao, cap, rfl, hcap⟩ := Sh.form hs
 obtain ⟨S, hS⟩ : ∃ S, signed t h = S := ⟨_, rfl⟩
 rw [hS]
 have HSS : Hid (signed t h = S) := hS
 clear hs hS r0 bW
 go_enter Tryz.func53, Tryz.ntmps53
 go_wp2
 rw [hW.out]
 go_loopw [9] (fun i wr => ∃ k : Nat, k ≤ t.length ∧ i = .int .i64 (k : Int) ∧ Hid (signed (t.take k) h = false) ∧ Hid (Below W.heap.size W wr)) (fun i _ => t.length - (intOf i).toNat)
 case atStart => exact ⟨0, Nat.zero_le _, rfl, rfl, Below.refl _ _⟩
 case round =>
  obtain ⟨k, hk, rfl, HK, hB⟩ := hrel
  by_cases hlt : k < t.length
  ·
   obtain ⟨x, hx0⟩ : ∃ x, t[k]? = some x := ⟨t[k], by simp [hlt]⟩
   obtain ⟨b, off, cap', he, _, c0, c1⟩ := Sh.at (HS.out.later hB.out) hx0
   simp only [Value.slice.injEq] at he
   obtain ⟨rfl, _, rfl⟩ := he
   have p0 : wr.cell? ⟨w.heap.size, 0, none⟩ = some (.int .i64 h.n) := row_at (rowKeep HR.out hB.out) 0
   have p1 : wr.cell? ⟨w.heap.size, 1, none⟩ = some (.string h.r) := row_at (rowKeep HR.out hB.out) 1
   have a0 := keepA p0 (.cells #[.int .i64 x.n, .string x.r] 28)
   have a1 := keepA p1 (.cells #[.int .i64 x.n, .string x.r] 28)
   have q : ∀ X, _ := fun X => pair_impl X x h
   have HA : Hid (Below W.heap.size W (wr.alloc (.cells #[.int .i64 x.n, .string x.r] 28))) := hB.out.alloc hB.out.size _
   by_cases hxh : eqH x h = true
   ·
    have HF : Hid (S = true) := by show _ = _; rw [← HSS.out]; exact signed_yes hx0 hxh
    simp only [pk_one hxh] at q
    clear hx0 HK hxh
    go_wp2_with fail
    refine (q _).mono ?_
    rintro e w4 ⟨rfl, b4⟩
    clear a0 a1 p0 p1 c0 c1
    go_wp2
    go_ret
    exact ⟨by rw [HF.out]; rfl, HBW.out.trans ((HA.out.trans (b4.mono HA.out.size)).mono HBW.out.size)⟩
   ·
    have hxf : eqH x h = false := by simpa using hxh
    have HN : Hid (signed (t.take (k + 1)) h = false) := by show _ = _; rw [signed_snoc hx0, HK.out, hxf]; rfl
    have pn := pk_not hxh
    obtain ⟨P, hP⟩ : ∃ P, pk x h = P := ⟨_, rfl⟩
    rw [hP] at pn
    simp only [hP] at q
    clear hx0 HK hxh hxf hP
    go_wp2_with fail
    refine (q _).mono ?_
    rintro e w4 ⟨rfl, b4⟩
    clear a0 a1 p0 p1 c0 c1
    go_wp2
    go_roundw
    case rel => exact ⟨k + 1, by omega, by go_num, HN, HA.out.trans (b4.mono HA.out.size)⟩
    case measure => simp [intOf]; omega
  ·
   have HF : Hid (S = false) := by
    show _ = _
    have h1 := HK.out
    rw [List.take_of_length_le (by omega)] at h1
    rw [← HSS.out, h1]
   clear HK
   go_wp2
   go_ret
   exact ⟨by rw [HF.out]; rfl, HBW.out.trans (hB.out.mono HBW.out.size)⟩
end Go.Proofs.YtfpaichdkddglaaGreatDoor.He
