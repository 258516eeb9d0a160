/- Texts in one: SrK, Sr5, AppH. -/
import Derived.Test.YtfpaichdkddglaaGreatDoorPm13
import Derived.Test.YtfpaichdkddglaaGreatDoorPm20
import Derived.Test.YtfpaichdkddglaaGreatDoorPm14
import Derived.Test.YtfpaichdkddglaaGreatDoorPm18
namespace Go.Proofs.YtfpaichdkddglaaGreatDoor.Sr
open Go.RowKit Go.Proofs.YtfpaichdkddglaaGreatDoor.Mem Go.Proofs.YtfpaichdkddglaaGreatDoor.Laws Go.Proofs.YtfpaichdkddglaaGreatDoor.Bytes Go.Proofs.YtfpaichdkddglaaGreatDoor.Sha Go.Proofs.YtfpaichdkddglaaGreatDoor.Tr Go.Proofs.YtfpaichdkddglaaGreatDoor.He Go.Proofs.YtfpaichdkddglaaGreatDoor.Lg
set_option linter.unusedVariables false
set_option linter.unusedSimpArgs false
set_option maxRecDepth 1000000 in
set_option maxHeartbeats 8000000 in
theorem commit_spec (w : World) (v vb vt vx : Value) (st : Sto) (t : List Hd) (hd : Hd) (x : List ByteArray) (hs : Sl w v (ss st.l)) (hb : Sl w vb (bs st.b)) (hby : Byt st.b) (hst : Sh w vt t) (hsx : Sl w vx (ss x)) (hl : st.l.length ≤ 1000000000) (hbl : st.b.length ≤ 1000000000) (htl : t.length ≤ 1000000000) (hxl : x.length ≤ 1000000000)
  (hz : ∀ s ∈ st.l, s.size ≤ 10000000000) (hzx : ∀ s ∈ x, s.size ≤ 10000000000) (htx : Puts.tot x ≤ 100000000000) (hdr : hd.r.size ≤ 100000000000) :
  Calls Tryz.prog 17 #[.agg #[v, .int .i64 st.h.n, .string st.h.r, vb, .int .i64 st.s], vt, .agg #[.int .i64 hd.n, .string hd.r], vx] w fun e w' => ∃ v' vb', e = .returned (.tuple #[.agg #[v', .int .i64 (commit st t hd x).1.h.n, .string (commit st t hd x).1.h.r, vb', .int .i64 (commit st t hd x).1.s], .int .i64 (commit st t hd x).2]) ∧ Own w' w.heap.size w'.heap.size 9 v' (ss (commit st t hd x).1.l) ∧ Own w' w.heap.size w'.heap.size 5 vb' (bs (commit st t hd x).1.b) ∧ Below w.heap.size w w' := by
 obtain ⟨R, hR⟩ : ∃ R, commit st t hd x = R := ⟨_, rfl⟩
 have HR : Hid (commit st t hd x = R) := hR
 rw [hR]
 obtain ⟨l, h, b, s⟩ := st
 simp only at *
 have HS : Hid (Sl w v (ss l)) := hs
 have HSB : Hid (Sl w vb (bs b)) := hb
 have HBY : Hid (Byt b) := hby
 have HT : Hid (Sh w vt t) := hst
 have HX : Hid (Sl w vx (ss x)) := hsx
 obtain ⟨ao0, cap0, rfl, hc0⟩ := hs.form
 obtain ⟨ao1, cap1, rfl, hc1⟩ := hb.form
 obtain ⟨ao2, cap2, rfl, hc2⟩ := hst.form
 obtain ⟨ao3, cap3, rfl, hc3⟩ := hsx.form
 simp only [ss_len, bs_len] at *
 clear hs hb hst hsx hby hR
 have B0 : Hid (Below w.heap.size w w) := Below.refl _ _
 obtain ⟨i5, hi5, hz5a, hz5b, hz5c⟩ := info_parts info5
 obtain ⟨W1, HW1, b1, y1, hS1, r_a1, r_h1, r_res1⟩ : ∃ X, Hid ((((w.alloc (.cells #[.slice ao0 l.length cap0, .int .i64 h.n, .string h.r, .slice ao1 b.length cap1, .int .i64 s] 37)).alloc (.cells #[.int .i64 hd.n, .string hd.r] 28)).alloc (.cells #[.slice none 0 0, .int .i64 0, .string ⟨#[]⟩, .slice none 0 0, .int .i64 0] 37)) = X) ∧ Below w.heap.size w X ∧ w.heap.size + 3 ≤ X.heap.size ∧ Hid (X.heap.size = w.heap.size + 1 + 1 + 1) ∧ Hid (X.heap[w.heap.size]? = some (.cells #[.slice ao0 l.length cap0, .int .i64 h.n, .string h.r, .slice ao1 b.length cap1, .int .i64 s] 37 (0, 0))) ∧ Hid (X.heap[w.heap.size + 1]? = some (.cells #[.int .i64 hd.n, .string hd.r] 28 (0, 0))) ∧ Hid (X.heap[w.heap.size + 1 + 1]? = some (.cells #[.slice none 0 0, .int .i64 0, .string ⟨#[]⟩, .slice none 0 0, .int .i64 0] 37 (0, 0))) := ⟨_, rfl, ((((Below.refl _ _).alloc (Nat.le_refl _) _).alloc (by simp) _).alloc (by simp; omega) _), by simp, by show _ = _; simp, (by show _ = _; exact alloc_nth3_0 w _ _ _), (by show _ = _; exact alloc_nth3_1 w _ _ _), (by show _ = _; exact alloc_nth3_2 w _ _ _)⟩
 have B1 : Hid (Below w.heap.size w W1) := B0.out.trans (b1.mono B0.out.size)
 have c_a1_0 : W1.cell? ⟨w.heap.size, 0, none⟩ = some (.slice ao0 l.length cap0) := row_at r_a1.out 0
 have c_a1_1 : W1.cell? ⟨w.heap.size, 1, none⟩ = some (.int .i64 h.n) := row_at r_a1.out 1
 have c_a1_2 : W1.cell? ⟨w.heap.size, 2, none⟩ = some (.string h.r) := row_at r_a1.out 2
 have c_a1_3 : W1.cell? ⟨w.heap.size, 3, none⟩ = some (.slice ao1 b.length cap1) := row_at r_a1.out 3
 have c_a1_4 : W1.cell? ⟨w.heap.size, 4, none⟩ = some (.int .i64 s) := row_at r_a1.out 4
 have c_h1_0 : W1.cell? ⟨w.heap.size + 1, 0, none⟩ = some (.int .i64 hd.n) := row_at r_h1.out 0
 have c_h1_1 : W1.cell? ⟨w.heap.size + 1, 1, none⟩ = some (.string hd.r) := row_at r_h1.out 1
 have q0 : ∀ W v1 v2, Sl W v1 (ss l) → Sl W v2 (bs b) → _ := fun W v1 v2 h1 h2 => storeok_spec W v1 v2 ⟨l, h, b, s⟩ h1 h2 HBY.out hl hbl hz
 have q1 : ∀ W v1 v2, Sl W v1 (ss l) → Sl W v2 (bs b) → _ := fun W v1 v2 h1 h2 => copy_spec W v1 v2 ⟨l, h, b, s⟩ h1 h2 hl hbl
 have q2 : ∀ W v1 v2 v3 v4, Sl W v1 (ss l) → Sl W v2 (bs b) → Sh W v3 t → Sl W v4 (ss x) → _ := fun W v1 v2 v3 v4 h1 h2 h3 h4 => commit1_spec W v1 v2 v3 v4 ⟨l, h, b, s⟩ t hd x h1 h2 h3 h4 hl hbl htl hxl hz hzx htx hdr
 have q3 : ∀ W v1, Sl W v1 (ss x) → _ := fun W v1 h1 => put_spec W hd v1 x h1 hxl htx hdr
 obtain ⟨Pb, hPb⟩ : ∃ P, put hd x = P := ⟨_, rfl⟩
 have hPl : Pb.length ≤ 1000000000000 := by rw [← hPb]; have h9 := put_len hd x; have h8 := body_len hd x; omega
 simp only [hPb] at q3
 have HP : Hid (put hd x = Pb) := hPb
 clear hPb
 obtain ⟨A, hA⟩ : ∃ A, storeOk ⟨l, h, b, s⟩ = A := ⟨_, rfl⟩
 simp only [hA] at q0
 have HA : Hid (storeOk ⟨l, h, b, s⟩ = A) := hA
 obtain ⟨E, hE⟩ : ∃ E, commit1 ⟨l, h, b, s⟩ t hd x = E := ⟨_, rfl⟩
 simp only [hE] at q2
 have HE : Hid (commit1 ⟨l, h, b, s⟩ t hd x = E) := hE
 obtain ⟨⟨L, H, B, S⟩, C⟩ := E
 simp only at q0 q1 q2
 clear hE hA hz hzx htx hdr
 go_enter Tryz.func17, Tryz.ntmps17
 go_wp2_with fail
 rw [HW1.out]
 refine wp_region_held_drew (S := fun w' => w'.cell? ⟨w.heap.size, 0, none⟩ = some (.slice ao0 l.length cap0) ∧ w'.cell? ⟨w.heap.size, 1, none⟩ = some (.int .i64 h.n) ∧ w'.cell? ⟨w.heap.size, 2, none⟩ = some (.string h.r) ∧ w'.cell? ⟨w.heap.size, 3, none⟩ = some (.slice ao1 b.length cap1) ∧ w'.cell? ⟨w.heap.size, 4, none⟩ = some (.int .i64 s) ∧ w'.cell? ⟨w.heap.size + 1, 0, none⟩ = some (.int .i64 hd.n) ∧ w'.cell? ⟨w.heap.size + 1, 1, none⟩ = some (.string hd.r)) (by kernel_rfl) ⟨c_a1_0, c_a1_1, c_a1_2, c_a1_3, c_a1_4, c_h1_0, c_h1_1⟩ (fun hHeld => ?_)
 (refine wpAnyH_take (i := 0) (v := ?v0x1) rfl (by kernel_rfl) (by kernel_rfl) (by kernel_rfl) (fun _ _ _ h => h) (Or.inl ⟨by rfl, ?hy0x1⟩) (by assumption) ?rest0x1; case hy0x1 => (intro w hSw; (try dsimp only at hSw); go_split_ands; go_simp; (try with_reducible rfl)))
 try simp only [Act.put, pu1, pu2, pu3, pu4, pu5, pu6]
 refine wpAnyH_ready (rs := [1]) (by kernel_rfl) (by simp) ?_
 refine AllReadyH.cons rfl (fun K hK => ?_) AllReadyH.nil
 go_simp
 refine (q0 W1.drew _ _ (Sl.later (w := W1) (HS.out.later B1.out) (Below.drew (Below.refl _ _))) (Sl.later (w := W1) (HSB.out.later B1.out) (Below.drew (Below.refl _ _)))).mono ?_
 rintro e W2 ⟨rfl, b2⟩
 have b2 : Below W1.heap.size W1 W2 := (Below.drew (Below.refl _ _)).trans b2
 refine hK.out _ _ ⟨(keepR (W := W1) hHeld.1 b2), (keepR (W := W1) hHeld.2.1 b2), (keepR (W := W1) hHeld.2.2.1 b2), (keepR (W := W1) hHeld.2.2.2.1 b2), (keepR (W := W1) hHeld.2.2.2.2.1 b2), (keepR (W := W1) hHeld.2.2.2.2.2.1 b2), (keepR (W := W1) hHeld.2.2.2.2.2.2 b2)⟩ (fun hHeld => ?_)
 clear hK K
 try simp only [Act.put, pu1, pu2, pu3, pu4, pu5, pu6]
 have z2 : W1.heap.size ≤ W2.heap.size := b2.size
 have B2 : Hid (Below w.heap.size w W2) := B1.out.trans (b2.mono B1.out.size)
 have r_a2 : Hid (W2.heap[w.heap.size]? = some (.cells #[.slice ao0 l.length cap0, .int .i64 h.n, .string h.r, .slice ao1 b.length cap1, .int .i64 s] 37 (0, 0))) := rowKeep r_a1.out b2
 have r_h2 : Hid (W2.heap[w.heap.size + 1]? = some (.cells #[.int .i64 hd.n, .string hd.r] 28 (0, 0))) := rowKeep r_h1.out b2
 have r_res2 : Hid (W2.heap[w.heap.size + 1 + 1]? = some (.cells #[.slice none 0 0, .int .i64 0, .string ⟨#[]⟩, .slice none 0 0, .int .i64 0] 37 (0, 0))) := rowKeep r_res1.out b2
 have c_a2_0 : W2.cell? ⟨w.heap.size, 0, none⟩ = some (.slice ao0 l.length cap0) := row_at r_a2.out 0
 have c_a2_1 : W2.cell? ⟨w.heap.size, 1, none⟩ = some (.int .i64 h.n) := row_at r_a2.out 1
 have c_a2_2 : W2.cell? ⟨w.heap.size, 2, none⟩ = some (.string h.r) := row_at r_a2.out 2
 have c_a2_3 : W2.cell? ⟨w.heap.size, 3, none⟩ = some (.slice ao1 b.length cap1) := row_at r_a2.out 3
 have c_a2_4 : W2.cell? ⟨w.heap.size, 4, none⟩ = some (.int .i64 s) := row_at r_a2.out 4
 clear r_a1 c_a1_0 c_a1_1 c_a1_2 c_a1_3 c_a1_4 r_h1 c_h1_0 c_h1_1 r_res1
 cases A
 ·
  (refine wpAnyH_take (i := 2) (v := ?v2x2) rfl (by kernel_rfl) (by kernel_rfl) (by kernel_rfl) (fun _ _ _ h => h) (Or.inl ⟨by rfl, ?hy2x2⟩) (by assumption) ?rest2x2; case hy2x2 => (intro w hSw; (try dsimp only at hSw); go_split_ands; go_simp; (try with_reducible rfl)))
  try simp only [Act.put, pu1, pu2, pu3, pu4, pu5, pu6]
  (refine wpAnyH_take (i := 3) (v := ?v3x3) rfl (by kernel_rfl) (by kernel_rfl) (by kernel_rfl) (fun _ _ _ h => h) (Or.inl ⟨by rfl, ?hy3x3⟩) (by assumption) ?rest3x3; case hy3x3 => (intro w hSw; (try dsimp only at hSw); go_split_ands; go_simp; (try with_reducible rfl)))
  try simp only [Act.put, pu1, pu2, pu3, pu4, pu5, pu6]
  (refine wpAnyH_take (i := 4) (v := undef) rfl (by kernel_rfl) (by kernel_rfl) (by kernel_rfl) (fun _ _ _ h => h) (Or.inr ⟨by rfl, rfl⟩) (by assumption) ?_)
  try simp only [Act.put, pu1, pu2, pu3, pu4, pu5, pu6]
  (refine wpAnyH_take (i := 5) (v := undef) rfl (by kernel_rfl) (by kernel_rfl) (by kernel_rfl) (fun _ _ _ h => h) (Or.inr ⟨by rfl, rfl⟩) (by assumption) ?_)
  try simp only [Act.put, pu1, pu2, pu3, pu4, pu5, pu6]
  (refine wpAnyH_take (i := 6) (v := undef) rfl (by kernel_rfl) (by kernel_rfl) (by kernel_rfl) (fun _ _ _ h => h) (Or.inr ⟨by rfl, rfl⟩) (by assumption) ?_)
  try simp only [Act.put, pu1, pu2, pu3, pu4, pu5, pu6]
  (refine wpAnyH_take (i := 7) (v := undef) rfl (by kernel_rfl) (by kernel_rfl) (by kernel_rfl) (fun _ _ _ h => h) (Or.inr ⟨by rfl, rfl⟩) (by assumption) ?_)
  try simp only [Act.put, pu1, pu2, pu3, pu4, pu5, pu6]
  (refine wpAnyH_take (i := 8) (v := undef) rfl (by kernel_rfl) (by kernel_rfl) (by kernel_rfl) (fun _ _ _ h => h) (Or.inr ⟨by rfl, rfl⟩) (by assumption) ?_)
  try simp only [Act.put, pu1, pu2, pu3, pu4, pu5, pu6]
  (refine wpAnyH_take (i := 9) (v := undef) rfl (by kernel_rfl) (by kernel_rfl) (by kernel_rfl) (fun _ _ _ h => h) (Or.inr ⟨by rfl, rfl⟩) (by assumption) ?_)
  try simp only [Act.put, pu1, pu2, pu3, pu4, pu5, pu6]
  (refine wpAnyH_take (i := 10) (v := undef) rfl (by kernel_rfl) (by kernel_rfl) (by kernel_rfl) (fun _ _ _ h => h) (Or.inr ⟨by rfl, rfl⟩) (by assumption) ?_)
  try simp only [Act.put, pu1, pu2, pu3, pu4, pu5, pu6]
  (refine wpAnyH_take (i := 11) (v := undef) rfl (by kernel_rfl) (by kernel_rfl) (by kernel_rfl) (fun _ _ _ h => h) (Or.inr ⟨by rfl, rfl⟩) (by assumption) ?_)
  try simp only [Act.put, pu1, pu2, pu3, pu4, pu5, pu6]
  (refine wpAnyH_take (i := 12) (v := undef) rfl (by kernel_rfl) (by kernel_rfl) (by kernel_rfl) (fun _ _ _ h => h) (Or.inr ⟨by rfl, rfl⟩) (by assumption) ?_)
  try simp only [Act.put, pu1, pu2, pu3, pu4, pu5, pu6]
  (refine wpAnyH_take (i := 13) (v := ?v13x13) rfl (by kernel_rfl) (by kernel_rfl) (by kernel_rfl) (fun _ _ _ h => h) (Or.inl ⟨by rfl, ?hy13x13⟩) (by assumption) ?rest13x13; case hy13x13 => (intro w hSw; (try dsimp only at hSw); go_split_ands; go_simp; (try with_reducible rfl)))
  try simp only [Act.put, pu1, pu2, pu3, pu4, pu5, pu6]
  refine wpAnyH_done (by kernel_rfl) ?_ _
  clear hHeld
  have HN : Hid (R = (⟨l, h, b, s⟩, 1)) := by show _ = _; rw [← HR.out]; unfold commit; rw [if_neg (fun hk => by have h9 := hk.1; rw [HA.out] at h9; exact absurd h9 (by simp))]
  go_wp2_with fail
  refine (q1 W2 _ _ (HS.out.later B2.out) (HSB.out.later B2.out)).mono ?_
  rintro e W3 ⟨v_s, v_p, rfl, o_s3, o_p3, b3⟩
  obtain ⟨lo_s, hi_s, lo_p, hi_p, d1_s, d2_s, d3_s, d4_s, d5_s, d6_s, d7_s, oo_s, oo_p⟩ := Sr.pairN o_s3 o_p3 b3.size
  clear o_s3 o_p3
  obtain ⟨ao_s, L_s, cap_s, rfl, _, _⟩ := oo_s.form
  obtain ⟨ao_p, L_p, cap_p, rfl, _, _⟩ := oo_p.form
  have o_s3 : Hid (Own W3 lo_s hi_s 9 (.slice ao_s L_s cap_s) (ss l)) := oo_s
  have o_p3 : Hid (Own W3 lo_p hi_p 5 (.slice ao_p L_p cap_p) (bs b)) := oo_p
  clear oo_s oo_p
  have B3 : Hid (Below w.heap.size w W3) := B2.out.trans (b3.mono B2.out.size)
  have r_res3 : Hid (W3.heap[w.heap.size + 1 + 1]? = some (.cells #[.slice none 0 0, .int .i64 0, .string ⟨#[]⟩, .slice none 0 0, .int .i64 0] 37 (0, 0))) := rowKeep r_res2.out b3
  clear r_a2 c_a2_0 c_a2_1 c_a2_2 c_a2_3 c_a2_4 r_h2 r_res2
  go_wp2_with (refine wpList_store_row rfl 37 _ _ rfl (w.heap.size + 1 + 1) (sc (.slice ao_s L_s cap_s) h (.slice ao_p L_p cap_p) s) rfl rfl 37 _ r_res3.out (sizeS _ _ _ _) rfl (oneS _ _ rfl rfl) ?_)
  refine bodyPost_ret (res_row_tmp rfl _ _ (w.heap.size + 1 + 1) 37 (sc (.slice ao_s L_s cap_s) h (.slice ao_p L_p cap_p) s) (0, 0) _ rfl (setRow_heap _ _ _ _ _ (0, 0) r_res3.out) Tryz.underlying37 rfl (sizeS _ _ _ _)) rfl ⟨.slice ao_s L_s cap_s, .slice ao_p L_p cap_p, by rw [HN.out]; rfl, ?_, ?_, below_setRow B3.out (by omega) _⟩
  ·
   rw [HN.out]
   exact (Own.setRow o_s3.out _ (by omega)).mono (by omega) (by rw [size_setRow]; omega)
  ·
   rw [HN.out]
   exact (Own.setRow o_p3.out _ (by omega)).mono (by omega) (by rw [size_setRow]; omega)
 ·
  (refine wpAnyH_take (i := 2) (v := ?v2x14) rfl (by kernel_rfl) (by kernel_rfl) (by kernel_rfl) (fun _ _ _ h => h) (Or.inl ⟨by rfl, ?hy2x14⟩) (by assumption) ?rest2x14; case hy2x14 => (intro w hSw; (try dsimp only at hSw); go_split_ands; go_simp; (try with_reducible rfl)))
  try simp only [Act.put, pu1, pu2, pu3, pu4, pu5, pu6]
  (refine wpAnyH_take (i := 3) (v := ?v3x15) rfl (by kernel_rfl) (by kernel_rfl) (by kernel_rfl) (fun _ _ _ h => h) (Or.inl ⟨by rfl, ?hy3x15⟩) (by assumption) ?rest3x15; case hy3x15 => (intro w hSw; (try dsimp only at hSw); go_split_ands; go_simp; (try with_reducible rfl)))
  try simp only [Act.put, pu1, pu2, pu3, pu4, pu5, pu6]
  (refine wpAnyH_take (i := 4) (v := ?v4x16) rfl (by kernel_rfl) (by kernel_rfl) (by kernel_rfl) (fun _ _ _ h => h) (Or.inl ⟨by rfl, ?hy4x16⟩) (by assumption) ?rest4x16; case hy4x16 => (intro w hSw; (try dsimp only at hSw); go_split_ands; go_simp; (try with_reducible rfl)))
  try simp only [Act.put, pu1, pu2, pu3, pu4, pu5, pu6]
  (refine wpAnyH_take (i := 5) (v := ?v5x17) rfl (by kernel_rfl) (by kernel_rfl) (by kernel_rfl) (fun _ _ _ h => h) (Or.inl ⟨by rfl, ?hy5x17⟩) (by assumption) ?rest5x17; case hy5x17 => (intro w hSw; (try dsimp only at hSw); go_split_ands; go_simp; (try with_reducible rfl)))
  try simp only [Act.put, pu1, pu2, pu3, pu4, pu5, pu6]
  (refine wpAnyH_take (i := 6) (v := ?v6x18) rfl (by kernel_rfl) (by kernel_rfl) (by kernel_rfl) (fun _ _ _ h => h) (Or.inl ⟨by rfl, ?hy6x18⟩) (by assumption) ?rest6x18; case hy6x18 => (intro w hSw; (try dsimp only at hSw); go_split_ands; go_simp; (try with_reducible rfl)))
  try simp only [Act.put, pu1, pu2, pu3, pu4, pu5, pu6]
  (refine wpAnyH_take (i := 7) (v := ?v7x19) rfl (by kernel_rfl) (by kernel_rfl) (by kernel_rfl) (fun _ _ _ h => h) (Or.inl ⟨by rfl, ?hy7x19⟩) (by assumption) ?rest7x19; case hy7x19 => (intro w hSw; (try dsimp only at hSw); go_split_ands; go_simp; (try with_reducible rfl)))
  try simp only [Act.put, pu1, pu2, pu3, pu4, pu5, pu6]
  (refine wpAnyH_take (i := 8) (v := ?v8x20) rfl (by kernel_rfl) (by kernel_rfl) (by kernel_rfl) (fun _ _ _ h => h) (Or.inl ⟨by rfl, ?hy8x20⟩) (by assumption) ?rest8x20; case hy8x20 => (intro w hSw; (try dsimp only at hSw); go_split_ands; go_simp; (try with_reducible rfl)))
  try simp only [Act.put, pu1, pu2, pu3, pu4, pu5, pu6]
  refine wpAnyH_ready (rs := [9]) (by kernel_rfl) (by simp) ?_
  refine AllReadyH.cons rfl (fun K hK => ?_) AllReadyH.nil
  go_simp
  refine (q3 W2 _ (HX.out.later B2.out)).mono ?_
  rintro e W3 ⟨v_u, rfl, o_u3, b3⟩
  refine hK.out _ _ ⟨(keepR (W := W2) hHeld.1 b3), (keepR (W := W2) hHeld.2.1 b3), (keepR (W := W2) hHeld.2.2.1 b3), (keepR (W := W2) hHeld.2.2.2.1 b3), (keepR (W := W2) hHeld.2.2.2.2.1 b3), (keepR (W := W2) hHeld.2.2.2.2.2.1 b3), (keepR (W := W2) hHeld.2.2.2.2.2.2 b3)⟩ (fun hHeld => ?_)
  clear hK K
  try simp only [Act.put, pu1, pu2, pu3, pu4, pu5, pu6]
  obtain ⟨ao_u, L_u, cap_u, rfl, hL_u, hM_u⟩ := o_u3.form
  have o_u3 : Hid (Own W3 W2.heap.size W3.heap.size 5 (.slice ao_u L_u cap_u) (bs Pb)) := o_u3
  clear hL_u hM_u
  have z3 : W2.heap.size ≤ W3.heap.size := b3.size
  have B3 : Hid (Below w.heap.size w W3) := B2.out.trans (b3.mono B2.out.size)
  have r_a3 : Hid (W3.heap[w.heap.size]? = some (.cells #[.slice ao0 l.length cap0, .int .i64 h.n, .string h.r, .slice ao1 b.length cap1, .int .i64 s] 37 (0, 0))) := rowKeep r_a2.out b3
  have r_h3 : Hid (W3.heap[w.heap.size + 1]? = some (.cells #[.int .i64 hd.n, .string hd.r] 28 (0, 0))) := rowKeep r_h2.out b3
  have r_res3 : Hid (W3.heap[w.heap.size + 1 + 1]? = some (.cells #[.slice none 0 0, .int .i64 0, .string ⟨#[]⟩, .slice none 0 0, .int .i64 0] 37 (0, 0))) := rowKeep r_res2.out b3
  have c_a3_0 : W3.cell? ⟨w.heap.size, 0, none⟩ = some (.slice ao0 l.length cap0) := row_at r_a3.out 0
  have c_a3_1 : W3.cell? ⟨w.heap.size, 1, none⟩ = some (.int .i64 h.n) := row_at r_a3.out 1
  have c_a3_2 : W3.cell? ⟨w.heap.size, 2, none⟩ = some (.string h.r) := row_at r_a3.out 2
  have c_a3_3 : W3.cell? ⟨w.heap.size, 3, none⟩ = some (.slice ao1 b.length cap1) := row_at r_a3.out 3
  have c_a3_4 : W3.cell? ⟨w.heap.size, 4, none⟩ = some (.int .i64 s) := row_at r_a3.out 4
  have c_h3_0 : W3.cell? ⟨w.heap.size + 1, 0, none⟩ = some (.int .i64 hd.n) := row_at r_h3.out 0
  have c_h3_1 : W3.cell? ⟨w.heap.size + 1, 1, none⟩ = some (.string hd.r) := row_at r_h3.out 1
  clear r_a2 c_a2_0 c_a2_1 c_a2_2 c_a2_3 c_a2_4 r_h2 r_res2
  have hLu : (L_u : Int) = (Pb.length : Int) := by obtain ⟨a9, L9, c9, he, h1, h2⟩ := Mem.Own.form o_u3.out; injection he with _ he2 _; rw [bs_len] at h1 h2; omega
  have hwr : IntKind.i64.wrap ((b.length : Int) + (L_u : Int)) = (b.length : Int) + (L_u : Int) := by rw [IntKind.wrap_i64]; omega
  have HLU : Hid ((L_u : Int) = (Pb.length : Int)) := hLu
  clear hLu
  by_cases h6 : (60000 : Int) < (b.length : Int) + (L_u : Int)
  ·
   have d6 : decide ((60000 : Int) < (b.length : Int) + (L_u : Int)) = true := by simp [h6]
   (refine wpAnyH_take (i := 10) (v := ?v10x21) rfl (by kernel_rfl) (by kernel_rfl) (by kernel_rfl) (fun _ _ _ h => h) (Or.inl ⟨by rfl, ?hy10x21⟩) (by assumption) ?rest10x21; case hy10x21 => (intro w hSw; (try dsimp only at hSw); go_split_ands; go_simp; (try with_reducible rfl)))
   try simp only [Act.put, pu1, pu2, pu3, pu4, pu5, pu6]
   (refine wpAnyH_take (i := 11) (v := ?v11x22) rfl (by kernel_rfl) (by kernel_rfl) (by kernel_rfl) (fun _ _ _ h => h) (Or.inl ⟨by rfl, ?hy11x22⟩) (by assumption) ?rest11x22; case hy11x22 => (intro w hSw; (try dsimp only at hSw); go_split_ands; go_simp; (try with_reducible rfl)))
   try simp only [Act.put, pu1, pu2, pu3, pu4, pu5, pu6]
   (refine wpAnyH_take (i := 12) (v := ?v12x23) rfl (by kernel_rfl) (by kernel_rfl) (by kernel_rfl) (fun _ _ _ h => h) (Or.inl ⟨by rfl, ?hy12x23⟩) (by assumption) ?rest12x23; case hy12x23 => (intro w hSw; (try dsimp only at hSw); go_split_ands; go_simp; (try with_reducible rfl)))
   try simp only [Act.put, pu1, pu2, pu3, pu4, pu5, pu6]
   (refine wpAnyH_take (i := 13) (v := ?v13x24) rfl (by kernel_rfl) (by kernel_rfl) (by kernel_rfl) (fun _ _ _ h => h) (Or.inl ⟨by rfl, ?hy13x24⟩) (by assumption) ?rest13x24; case hy13x24 => (intro w hSw; (try dsimp only at hSw); go_split_ands; go_simp; (try with_reducible rfl)))
   try simp only [Act.put, pu1, pu2, pu3, pu4, pu5, pu6]
   refine wpAnyH_done (by kernel_rfl) ?_ _
   clear hHeld
   clear o_u3
   have h7 : ¬ (b.length + Pb.length ≤ 60000) := by have := HLU.out; omega
   have HN : Hid (R = (⟨l, h, b, s⟩, 1)) := by show _ = _; rw [← HR.out]; unfold commit; rw [if_neg (fun hk => h7 (by have h9 := hk.2; rw [HP.out] at h9; exact h9))]
   go_wp2_with fail
   refine (q1 W3 _ _ (HS.out.later B3.out) (HSB.out.later B3.out)).mono ?_
   rintro e W4 ⟨v_s, v_p, rfl, o_s4, o_p4, b4⟩
   obtain ⟨lo_s, hi_s, lo_p, hi_p, d1_s, d2_s, d3_s, d4_s, d5_s, d6_s, d7_s, oo_s, oo_p⟩ := Sr.pairN o_s4 o_p4 b4.size
   clear o_s4 o_p4
   obtain ⟨ao_s, L_s, cap_s, rfl, _, _⟩ := oo_s.form
   obtain ⟨ao_p, L_p, cap_p, rfl, _, _⟩ := oo_p.form
   have o_s4 : Hid (Own W4 lo_s hi_s 9 (.slice ao_s L_s cap_s) (ss l)) := oo_s
   have o_p4 : Hid (Own W4 lo_p hi_p 5 (.slice ao_p L_p cap_p) (bs b)) := oo_p
   clear oo_s oo_p
   have B4 : Hid (Below w.heap.size w W4) := B3.out.trans (b4.mono B3.out.size)
   have r_res4 : Hid (W4.heap[w.heap.size + 1 + 1]? = some (.cells #[.slice none 0 0, .int .i64 0, .string ⟨#[]⟩, .slice none 0 0, .int .i64 0] 37 (0, 0))) := rowKeep r_res3.out b4
   clear r_a3 c_a3_0 c_a3_1 c_a3_2 c_a3_3 c_a3_4 r_h3 c_h3_0 c_h3_1 r_res3
   go_wp2_with (refine wpList_store_row rfl 37 _ _ rfl (w.heap.size + 1 + 1) (sc (.slice ao_s L_s cap_s) h (.slice ao_p L_p cap_p) s) rfl rfl 37 _ r_res4.out (sizeS _ _ _ _) rfl (oneS _ _ rfl rfl) ?_)
   refine bodyPost_ret (res_row_tmp rfl _ _ (w.heap.size + 1 + 1) 37 (sc (.slice ao_s L_s cap_s) h (.slice ao_p L_p cap_p) s) (0, 0) _ rfl (setRow_heap _ _ _ _ _ (0, 0) r_res4.out) Tryz.underlying37 rfl (sizeS _ _ _ _)) rfl ⟨.slice ao_s L_s cap_s, .slice ao_p L_p cap_p, by rw [HN.out]; rfl, ?_, ?_, below_setRow B4.out (by omega) _⟩
   ·
    rw [HN.out]
    exact (Own.setRow o_s4.out _ (by omega)).mono (by omega) (by rw [size_setRow]; omega)
   ·
    rw [HN.out]
    exact (Own.setRow o_p4.out _ (by omega)).mono (by omega) (by rw [size_setRow]; omega)
  ·
   have d6 : decide ((60000 : Int) < (b.length : Int) + (L_u : Int)) = false := by simp; omega
   (refine wpAnyH_take (i := 10) (v := ?v10x25) rfl (by kernel_rfl) (by kernel_rfl) (by kernel_rfl) (fun _ _ _ h => h) (Or.inl ⟨by rfl, ?hy10x25⟩) (by assumption) ?rest10x25; case hy10x25 => (intro w hSw; (try dsimp only at hSw); go_split_ands; go_simp; (try with_reducible rfl)))
   try simp only [Act.put, pu1, pu2, pu3, pu4, pu5, pu6]
   (refine wpAnyH_take (i := 11) (v := ?v11x26) rfl (by kernel_rfl) (by kernel_rfl) (by kernel_rfl) (fun _ _ _ h => h) (Or.inl ⟨by rfl, ?hy11x26⟩) (by assumption) ?rest11x26; case hy11x26 => (intro w hSw; (try dsimp only at hSw); go_split_ands; go_simp; (try with_reducible rfl)))
   try simp only [Act.put, pu1, pu2, pu3, pu4, pu5, pu6]
   (refine wpAnyH_take (i := 12) (v := ?v12x27) rfl (by kernel_rfl) (by kernel_rfl) (by kernel_rfl) (fun _ _ _ h => h) (Or.inl ⟨by rfl, ?hy12x27⟩) (by assumption) ?rest12x27; case hy12x27 => (intro w hSw; (try dsimp only at hSw); go_split_ands; go_simp; (try with_reducible rfl)))
   try simp only [Act.put, pu1, pu2, pu3, pu4, pu5, pu6]
   (refine wpAnyH_take (i := 13) (v := ?v13x28) rfl (by kernel_rfl) (by kernel_rfl) (by kernel_rfl) (fun _ _ _ h => h) (Or.inl ⟨by rfl, ?hy13x28⟩) (by assumption) ?rest13x28; case hy13x28 => (intro w hSw; (try dsimp only at hSw); go_split_ands; go_simp; (try with_reducible rfl)))
   try simp only [Act.put, pu1, pu2, pu3, pu4, pu5, pu6]
   refine wpAnyH_done (by kernel_rfl) ?_ _
   clear hHeld
   clear o_u3
   have h7 : b.length + Pb.length ≤ 60000 := by have := HLU.out; omega
   have HN : Hid (R = (⟨L, H, B, S⟩, C)) := by show _ = _; rw [← HR.out]; unfold commit; rw [if_pos ⟨HA.out, by rw [HP.out]; exact h7⟩]; exact HE.out
   go_wp2_with fail
   refine (q2 W3 _ _ _ _ (HS.out.later B3.out) (HSB.out.later B3.out) (HT.out.later B3.out) (HX.out.later B3.out)).mono ?_
   rintro e W4 ⟨v_s, v_p, rfl, o_s4, o_p4, b4⟩
   obtain ⟨lo_s, hi_s, lo_p, hi_p, d1_s, d2_s, d3_s, d4_s, d5_s, d6_s, d7_s, oo_s, oo_p⟩ := Sr.pairN o_s4 o_p4 b4.size
   clear o_s4 o_p4
   obtain ⟨ao_s, L_s, cap_s, rfl, _, _⟩ := oo_s.form
   obtain ⟨ao_p, L_p, cap_p, rfl, _, _⟩ := oo_p.form
   have o_s4 : Hid (Own W4 lo_s hi_s 9 (.slice ao_s L_s cap_s) (ss L)) := oo_s
   have o_p4 : Hid (Own W4 lo_p hi_p 5 (.slice ao_p L_p cap_p) (bs B)) := oo_p
   clear oo_s oo_p
   have B4 : Hid (Below w.heap.size w W4) := B3.out.trans (b4.mono B3.out.size)
   have r_res4 : Hid (W4.heap[w.heap.size + 1 + 1]? = some (.cells #[.slice none 0 0, .int .i64 0, .string ⟨#[]⟩, .slice none 0 0, .int .i64 0] 37 (0, 0))) := rowKeep r_res3.out b4
   clear r_a3 c_a3_0 c_a3_1 c_a3_2 c_a3_3 c_a3_4 r_h3 c_h3_0 c_h3_1 r_res3
   go_wp2_with (refine wpList_store_row rfl 37 _ _ rfl (w.heap.size + 1 + 1) (sc (.slice ao_s L_s cap_s) H (.slice ao_p L_p cap_p) S) rfl rfl 37 _ r_res4.out (sizeS _ _ _ _) rfl (oneS _ _ rfl rfl) ?_)
   refine bodyPost_ret (res_row_tmp rfl _ _ (w.heap.size + 1 + 1) 37 (sc (.slice ao_s L_s cap_s) H (.slice ao_p L_p cap_p) S) (0, 0) _ rfl (setRow_heap _ _ _ _ _ (0, 0) r_res4.out) Tryz.underlying37 rfl (sizeS _ _ _ _)) rfl ⟨.slice ao_s L_s cap_s, .slice ao_p L_p cap_p, by rw [HN.out]; rfl, ?_, ?_, below_setRow B4.out (by omega) _⟩
   ·
    rw [HN.out]
    exact (Own.setRow o_s4.out _ (by omega)).mono (by omega) (by rw [size_setRow]; omega)
   ·
    rw [HN.out]
    exact (Own.setRow o_p4.out _ (by omega)).mono (by omega) (by rw [size_setRow]; omega)
end Go.Proofs.YtfpaichdkddglaaGreatDoor.Sr
namespace Go.Proofs.YtfpaichdkddglaaGreatDoor.Sr
open Go.RowKit Go.Proofs.YtfpaichdkddglaaGreatDoor.Mem Go.Proofs.YtfpaichdkddglaaGreatDoor.He Go.Proofs.YtfpaichdkddglaaGreatDoor.Lg
set_option linter.unusedVariables false
theorem commit_bad {st : Sto} {t : List Hd} {h : Hd} {x : List ByteArray} (hc : ¬ (commit st t h x).2 = 0) : (commit st t h x).1 = st := by
 unfold commit at hc ⊢
 split
 ·
  rename_i hk
  rw [if_pos hk] at hc
  unfold commit1 at hc ⊢
  split
  ·
   rename_i h9; rw [if_pos h9] at hc; exact absurd rfl hc
  ·
   rfl
 ·
  rfl
theorem signed_head (t : List Hd) (h : Hd) : signed (h :: t) h = true := by
 unfold signed
 simp [(eqH_iff h h).2]
theorem open_one {t : List Hd} {x : List ByteArray} (hk : okH (headOf x) = true) (h1 : 1 ≤ x.length) (h2 : x.length ≤ 200) (hbl : (body (headOf x) x).length ≤ 1000000000) (f : Nat) : 0 < (openF (f + 1) (headOf x :: t) (put (headOf x) x) 0 new12 0).2 := by
 have g := get_put [] [] (h := headOf x) (x := x) hk h1 h2 hbl
 simp only [List.nil_append, List.append_nil, List.length_nil] at g
 have hp := put_pos (headOf x) x
 have hc := commit1_of (st := new12) (x := x) (t := headOf x :: t) (logOk_of (by simp [new12])) h1 (by simpa [new12] using h2) (by simpa [new12] using signed_head t (headOf x))
 simp only [new12, List.nil_append] at hc
 rw [openF, if_pos (by omega), g]
 simp only
 rw [if_pos ⟨by trivial, by show (commit1 ⟨[], headOf [], [], 0⟩ _ _ _).2 = 0; rw [hc]⟩]
 exact Nat.lt_of_lt_of_le (Nat.zero_lt_one) (open_grows _ _ _ _ _ _).2
theorem stored {st : Sto} {t : List Hd} {h : Hd} {x : List ByteArray} (hb : Byt st.b) (hc : (commit st t h x).2 = 0) (hbl : (body h x).length ≤ 1000000000) :
  storeOk (commit st t h x).1 = true ∧ (commit st t h x).1.h = h ∧ st.b.length < (commit st t h x).1.b.length ∧ (0 < (openS (h :: t) (commit st t h x).1.b).2 ∨ 0 < st.b.length) ∧ (openS (h :: t) (commit st t h x).1.b).1.l <+: (commit st t h x).1.l ∧ Byt (commit st t h x).1.b := by
 obtain ⟨k1, k2, k3, k4, k5⟩ := commit_ok hb hc
 obtain ⟨c1, c2, c3, c4, c5, c6, c7⟩ := commit1_good k5
 rw [k4] at k1 ⊢
 rw [c7] at k1 ⊢
 obtain ⟨p1, p2, p3, p4, p5, p6⟩ := ok_parts k1
 simp only at p1 p2 p3 p4 p5 p6 ⊢
 have hbb : Byt (st.b ++ put h x) := Byt.app hb (put_byt h x)
 have hpp := put_pos h x
 refine ⟨k1, trivial, by rw [List.length_append]; omega, ?_, ?_, hbb⟩
 ·
  by_cases h0 : st.b.length = 0
  ·
   left
   have e0 : st.b = [] := List.eq_nil_of_length_eq_zero h0
   have el : st.l = [] := by
    have := (ok_parts k2).2.2.2.2.2
    rw [e0] at this
    rw [← this]
    rfl
   rw [el, List.nil_append] at c6 c5
   rw [e0, List.nil_append] at p2 ⊢
   unfold openS
   rw [List.take_of_length_le p2]
   obtain ⟨f, hf⟩ : ∃ f, (put h x).length = f + 1 := ⟨(put h x).length - 1, by omega⟩
   rw [hf]
   subst c6
   exact open_one c2 c4 c5 hbl f
  ·
   exact .inr (by omega)
 ·
  rw [(open_short (h :: t) p2).1]
  refine open_replay (L := st.l ++ x) (H := (replay (st.b ++ put h x)).2.1) (h :: t) (st.b ++ put h x) (st.b ++ put h x).length _ 0 new12 (headOf []) 0 ?_ (by omega) hbb (Nat.zero_le _)
  show replay (st.b ++ put h x) = _
  rw [← p6, ← p5]
end Go.Proofs.YtfpaichdkddglaaGreatDoor.Sr
namespace Go.Proofs.YtfpaichdkddglaaGreatDoor.Sr
open Go.RowKit Go.Proofs.YtfpaichdkddglaaGreatDoor.Mem Go.Proofs.YtfpaichdkddglaaGreatDoor.Laws Go.Proofs.YtfpaichdkddglaaGreatDoor.Bytes Go.Proofs.YtfpaichdkddglaaGreatDoor.Sha Go.Proofs.YtfpaichdkddglaaGreatDoor.Tr Go.Proofs.YtfpaichdkddglaaGreatDoor.Draw Go.Proofs.YtfpaichdkddglaaGreatDoor.He Go.Proofs.YtfpaichdkddglaaGreatDoor.Lg
set_option linter.unusedVariables false
set_option linter.unusedSimpArgs false
theorem step_appn {P : Program} (n : Nat) (hn0 : 0 < n) {w : World} {ops : Array Oper} {o : Oper} {a : Act} {K : Act → World → Prop} {Q : Exit → Act → World → Prop} {E : Prop}
  (hg : o.guard = none) (s x : Operand) (t : TypeId) (hop : o.op = Op.call { callee := Callee.builtin Builtin.append, args := #[s, x], argTypes := #[t, t] })
  (e : TypeId) (i : TypeInfo) (z : Value) (bytes : Nat) (ht : P.underlying t = some (.slice e)) (hi : P.info? e = some i) (hz : i.zero = some z) (hsize : i.size = n) (hby : i.bytes = bytes) (hzs : z.cells.size = n)
  (lo : Nat) (v : Value) (m : Nat) (cs : List Value) (hs : a.eval s = v) (hown : On n w lo w.heap.size e v m cs) (y : Value) (hx : a.eval x = y) (k : Nat) (news : List Value) (hsl : Sn n w y k news)
  (h1 : ∀ u ∈ news, u.oneCell' = true) (h63 : m + k ≤ maxLen) (hb : (m + k) * bytes ≤ 140737488355328) (hlo : lo ≤ w.heap.size)
  (hK : ∀ v' w', On n w' lo w'.heap.size e v' (m + k) (cs ++ news) → Below lo w w' → w.grownBy w' v.ownBlock → K (a.put o.dst v') w') : if Region.wanted o (yielded ops a.tmps) = true then Oper.wp P o a w K Q else E := by
 have hw : Region.wanted o (yielded ops a.tmps) = true := by simp [Region.wanted, hg]
 rw [if_pos hw]
 obtain ⟨hl, ao, cap, rfl, hc, hn, hr⟩ := hsl
 have hblk : ∀ w', w.grownBy w' v.ownBlock → Below lo w w' := fun w' hg => (Below.refl _ _).grown hg hlo (fun k hk => (hown.1.lt k hk).1)
 cases ao with
 | none =>
  have hcap := hn rfl
  have hk0 : k = 0 := by omega
  subst hk0
  have hnil : news = [] := List.eq_nil_of_length_eq_zero (by simpa using hl)
  subst hnil
  subst hcap
  have hrun := run_append_owned_none (P := P) (w := w) lo t o.type e i n ht hi v m cs hown.1
  unfold Oper.wp
  simp [execOp, hop, resolve, invoke, builtin, hs, hx, hrun, Result.andThen]
  exact hK v w (by simpa using hown) (Below.refl _ _) (World.grownBy.refl _ _)
 | some ad =>
  refine wp_append_own w s x t hop lo e i z n bytes ht hi hz hsize hby hzs hn0 v m cs hs hown.1 ad k cap news hx hl ?_ h1 h63 hb hlo ?_
  ·
   intro j u hj
   have hlt : j < news.length := (List.getElem?_eq_some_iff.1 hj).1
   obtain ⟨b, off, he, hcell⟩ := hr (by
    rcases Nat.eq_zero_or_pos k with h0 | h0
    ·
     subst h0; simp at hl; subst hl; simp at hlt
    ·
     exact h0)
   obtain rfl := Option.some.inj he
   rw [Addr.add_lit, hcell j hlt, hj]
  ·
   intro v' w' ho hgr _
   exact hK v' w' (On.of ho) (hblk w' hgr) hgr
theorem lit1H (w : World) (lo : Nat) (h : Hd) (hl : lo ≤ w.heap.size) : Oh (w.alloc (.cells #[.int .i64 h.n, .string h.r] 28)) lo (w.alloc (.cells #[.int .i64 h.n, .string h.r] 28)).heap.size (.slice (some ⟨w.heap.size, 0, none⟩) 1 1) [h] :=
 On.of ⟨by simp [hds, Hd.cs], .inr ⟨w.heap.size, 1, #[.int .i64 h.n, .string h.r], rfl, hl, heap_alloc_new w _, Nat.le_refl _, by unfold maxLen; omega, by simp, by simp [hds, Hd.cs]⟩⟩
end Go.Proofs.YtfpaichdkddglaaGreatDoor.Sr
