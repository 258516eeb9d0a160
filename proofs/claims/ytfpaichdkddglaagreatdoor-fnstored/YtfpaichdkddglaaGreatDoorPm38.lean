/- Texts in one: KpI, SrG. -/
import Derived.Test.YtfpaichdkddglaaGreatDoorPm36
import Derived.Test.YtfpaichdkddglaaGreatDoorPm29
import Derived.Test.YtfpaichdkddglaaGreatDoorPm37
import Derived.Test.YtfpaichdkddglaaGreatDoorPm13
import Derived.Test.YtfpaichdkddglaaGreatDoorPm14
import Derived.Test.YtfpaichdkddglaaGreatDoorPm20
namespace Go.Proofs.YtfpaichdkddglaaGreatDoor.Sr
open Go.RowKit Go.Proofs.YtfpaichdkddglaaGreatDoor.Mem Go.Proofs.YtfpaichdkddglaaGreatDoor.Laws Go.Proofs.YtfpaichdkddglaaGreatDoor.Bytes Go.Proofs.YtfpaichdkddglaaGreatDoor.Sha Go.Proofs.YtfpaichdkddglaaGreatDoor.Tr Go.Proofs.YtfpaichdkddglaaGreatDoor.He Go.Proofs.YtfpaichdkddglaaGreatDoor.Lg
set_option linter.unusedVariables false
set_option linter.unusedSimpArgs false
set_option maxRecDepth 1000000 in
set_option maxHeartbeats 8000000 in
theorem withc_impl (w : World) (v vb vt vx : Value) (st : Sto) (t : List Hd) (hd : Hd) (x : List ByteArray) {a0 a1 a2 a3 : Addr} (hG : Glob w) (hF : Is.Four w a0 a1 a2 a3) (hs : Sl w v (ss st.l)) (hb : Sl w vb (bs st.b)) (hst : Sh w vt t) (hsx : Sl w vx (ss x)) (hl : st.l.length ≤ 1000000000) (hbl : st.b.length ≤ 1000000000) (htl : t.length ≤ 1000000000) (hxl : x.length ≤ 1000000000)
  (hz : ∀ s ∈ st.l, s.size ≤ 10000000000) (hzx : ∀ s ∈ x, s.size ≤ 10000000000) (htx : Puts.tot x ≤ 100000000000) (hdr : hd.r.size ≤ 100000000000) (hhr : st.h.r.size ≤ 1000000000000) :
  Calls Tryz.prog 33 #[.agg #[v, .int .i64 st.h.n, .string st.h.r, vb, .int .i64 st.s], vt, .agg #[.int .i64 hd.n, .string hd.r], vx] w fun e w' => ∃ v' vb', e = .returned (.tuple #[.agg #[v', .int .i64 (commitQ st t hd x).1.h.n, .string (commitQ st t hd x).1.h.r, vb', .int .i64 (commitQ st t hd x).1.s], .int .i64 (commitQ st t hd x).2]) ∧ Own w' w.heap.size w'.heap.size 9 v' (ss (commitQ st t hd x).1.l) ∧ Own w' w.heap.size w'.heap.size 5 vb' (bs (commitQ st t hd x).1.b) ∧ Below w.heap.size w w' := by
 obtain ⟨R, hR⟩ : ∃ R, commitQ st t hd x = R := ⟨_, rfl⟩
 have HR : Hid (commitQ st t hd x = R) := hR
 rw [hR]
 have HG : Hid (Glob w) := hG
 have HF : Hid (Is.Four w a0 a1 a2 a3) := hF
 obtain ⟨l, h, b, s⟩ := st
 simp only at *
 have HS : Hid (Sl w v (ss l)) := hs
 have HSB : Hid (Sl w vb (bs b)) := hb
 have HT : Hid (Sh w vt t) := hst
 have HX : Hid (Sl w vx (ss x)) := hsx
 obtain ⟨ao0, cap0, rfl, hc0⟩ := hs.form
 obtain ⟨ao1, cap1, rfl, hc1⟩ := hb.form
 obtain ⟨ao2, cap2, rfl, hc2⟩ := hst.form
 obtain ⟨ao3, cap3, rfl, hc3⟩ := hsx.form
 simp only [ss_len, bs_len] at *
 clear hs hb hst hsx hR hG hF
 have B0 : Hid (Below w.heap.size w w) := Below.refl _ _
 obtain ⟨W1, HW1, b1, y1, hS1, r_a1, r_h1, r_res1⟩ : ∃ X, Hid ((((w.alloc (.cells #[.slice ao0 l.length cap0, .int .i64 h.n, .string h.r, .slice ao1 b.length cap1, .int .i64 s] 37)).alloc (.cells #[.int .i64 hd.n, .string hd.r] 28)).alloc (.cells #[.slice none 0 0, .int .i64 0, .string ⟨#[]⟩, .slice none 0 0, .int .i64 0] 37)) = X) ∧ Below w.heap.size w X ∧ w.heap.size + 3 ≤ X.heap.size ∧ Hid (X.heap.size = w.heap.size + 1 + 1 + 1) ∧ Hid (X.heap[w.heap.size]? = some (.cells #[.slice ao0 l.length cap0, .int .i64 h.n, .string h.r, .slice ao1 b.length cap1, .int .i64 s] 37 (0, 0))) ∧ Hid (X.heap[w.heap.size + 1]? = some (.cells #[.int .i64 hd.n, .string hd.r] 28 (0, 0))) ∧ Hid (X.heap[w.heap.size + 1 + 1]? = some (.cells #[.slice none 0 0, .int .i64 0, .string ⟨#[]⟩, .slice none 0 0, .int .i64 0] 37 (0, 0))) := ⟨_, rfl, ((((Below.refl _ _).alloc (Nat.le_refl _) _).alloc (by simp) _).alloc (by simp; omega) _), by simp, by show _ = _; simp, (by show _ = _; exact alloc_nth3_0 w _ _ _), (by show _ = _; exact alloc_nth3_1 w _ _ _), (by show _ = _; exact alloc_nth3_2 w _ _ _)⟩
 have B1 : Hid (Below w.heap.size w W1) := B0.out.trans (b1.mono B0.out.size)
 have c_a1_0 : W1.cell? ⟨w.heap.size, 0, none⟩ = some (.slice ao0 l.length cap0) := row_at r_a1.out 0
 have c_a1_1 : W1.cell? ⟨w.heap.size, 1, none⟩ = some (.int .i64 h.n) := row_at r_a1.out 1
 have c_a1_2 : W1.cell? ⟨w.heap.size, 2, none⟩ = some (.string h.r) := row_at r_a1.out 2
 have c_a1_3 : W1.cell? ⟨w.heap.size, 3, none⟩ = some (.slice ao1 b.length cap1) := row_at r_a1.out 3
 have c_a1_4 : W1.cell? ⟨w.heap.size, 4, none⟩ = some (.int .i64 s) := row_at r_a1.out 4
 have c_h1_0 : W1.cell? ⟨w.heap.size + 1, 0, none⟩ = some (.int .i64 hd.n) := row_at r_h1.out 0
 have c_h1_1 : W1.cell? ⟨w.heap.size + 1, 1, none⟩ = some (.string hd.r) := row_at r_h1.out 1
 have q1 : ∀ W v1 v2, Sl W v1 (ss l) → Sl W v2 (bs b) → _ := fun W v1 v2 h1 h2 => ownstore_impl W v1 v2 ⟨l, h, b, s⟩ h1 h2 hl hbl (fun s hs => Nat.le_trans (hz s hs) (by omega)) hhr
 have q2 : ∀ W v1 v2 v3, Glob W → Is.Four W a0 a1 a2 a3 → Sl W v1 (ss l) → Sh W v2 t → Sl W v3 (ss x) → _ := fun W v1 v2 v3 g0 g1 h1 h2 h3 => extend_impl W v1 v2 v3 l x h hd t g0 g1 h1 h2 h3 hl htl hxl hz hzx hhr (by omega)
 have q3 : ∀ W v1, Glob W → Sl W v1 (ss x) → _ := fun W v1 g0 h1 => putc_impl W hd v1 x g0 h1 hxl htx hdr
 obtain ⟨E, hE⟩ : ∃ E, extend l h t hd x = E := ⟨_, rfl⟩
 simp only [hE] at q2
 have HE : Hid (extend l h t hd x = E) := hE
 obtain ⟨L, H, C⟩ := E
 simp only at q1 q2
 obtain ⟨Pb, hPb⟩ : ∃ P, putC hd x = P := ⟨_, rfl⟩
 have hPl : Pb.length ≤ 500000000000 := by rw [← hPb]; have h9 := put_len hd x; have h8 := body_len hd x; unfold putC; split; omega; simp
 simp only [hPb] at q3
 have HP : Hid (putC hd x = Pb) := hPb
 clear hPb hE hz hzx htx hdr
 have HH : Hid (b.length + Pb.length ≤ 60000 → C = 0 → R = (⟨L, H, b ++ Pb, s⟩, 0)) := by
  intro h6 hC
  obtain ⟨_, h2, _, h4, h5, _, h7⟩ := extend_good (l := l) (x := x) (hd := h) (h := hd) (t := t) (by rw [HE.out]; exact hC)
  rw [List.length_append] at h5
  have h8 : putC hd x = put hd x := putC_yes h2 h4 (by omega)
  rw [← HR.out]
  unfold commitQ commit1
  simp only
  rw [HE.out, HP.out, if_pos h6, if_pos hC, ← h8, HP.out]
 have HJ : Hid (b.length + Pb.length ≤ 60000 → ¬ C = 0 → R = (⟨l, h, b, s⟩, C)) := by
  intro h6 hC
  rw [← HR.out]
  unfold commitQ commit1
  simp only
  rw [HE.out, HP.out, if_pos h6, if_neg hC]
 have HI : Hid (¬ b.length + Pb.length ≤ 60000 → R = (⟨l, h, b, s⟩, 1)) := by
  intro h6
  rw [← HR.out]
  unfold commitQ
  simp only
  rw [HP.out, if_neg h6]
 go_enter Tryz.func33, Tryz.ntmps33
 go_wp2_with fail
 rw [HW1.out]
 refine wp_region_held_drew (S := fun w' => w'.cell? ⟨w.heap.size, 0, none⟩ = some (.slice ao0 l.length cap0) ∧ w'.cell? ⟨w.heap.size, 1, none⟩ = some (.int .i64 h.n) ∧ w'.cell? ⟨w.heap.size, 2, none⟩ = some (.string h.r) ∧ w'.cell? ⟨w.heap.size, 3, none⟩ = some (.slice ao1 b.length cap1) ∧ w'.cell? ⟨w.heap.size, 4, none⟩ = some (.int .i64 s) ∧ w'.cell? ⟨w.heap.size + 1, 0, none⟩ = some (.int .i64 hd.n) ∧ w'.cell? ⟨w.heap.size + 1, 1, none⟩ = some (.string hd.r)) (by kernel_rfl) ⟨c_a1_0, c_a1_1, c_a1_2, c_a1_3, c_a1_4, c_h1_0, c_h1_1⟩ (fun hHeld => ?_)
 (refine wpAnyH_take (i := 0) (v := ?v0x16) rfl (by kernel_rfl) (by kernel_rfl) (by kernel_rfl) (fun _ _ _ h => h) (Or.inl ⟨by rfl, ?hy0x16⟩) (by assumption) ?rest0x16; case hy0x16 => (intro w hSw; (try dsimp only at hSw); go_split_ands; go_simp; (try with_reducible rfl)))
 try simp only [Act.put, pu1, pu2, pu3, pu4, pu5, pu6]
 (refine wpAnyH_take (i := 1) (v := ?v1x17) rfl (by kernel_rfl) (by kernel_rfl) (by kernel_rfl) (fun _ _ _ h => h) (Or.inl ⟨by rfl, ?hy1x17⟩) (by assumption) ?rest1x17; case hy1x17 => (intro w hSw; (try dsimp only at hSw); go_split_ands; go_simp; (try with_reducible rfl)))
 try simp only [Act.put, pu1, pu2, pu3, pu4, pu5, pu6]
 (refine wpAnyH_take (i := 2) (v := ?v2x18) rfl (by kernel_rfl) (by kernel_rfl) (by kernel_rfl) (fun _ _ _ h => h) (Or.inl ⟨by rfl, ?hy2x18⟩) (by assumption) ?rest2x18; case hy2x18 => (intro w hSw; (try dsimp only at hSw); go_split_ands; go_simp; (try with_reducible rfl)))
 try simp only [Act.put, pu1, pu2, pu3, pu4, pu5, pu6]
 (refine wpAnyH_take (i := 3) (v := ?v3x19) rfl (by kernel_rfl) (by kernel_rfl) (by kernel_rfl) (fun _ _ _ h => h) (Or.inl ⟨by rfl, ?hy3x19⟩) (by assumption) ?rest3x19; case hy3x19 => (intro w hSw; (try dsimp only at hSw); go_split_ands; go_simp; (try with_reducible rfl)))
 try simp only [Act.put, pu1, pu2, pu3, pu4, pu5, pu6]
 refine wpAnyH_ready (rs := [4]) (by kernel_rfl) (by simp) ?_
 refine AllReadyH.cons rfl (fun K hK => ?_) AllReadyH.nil
 go_simp
 refine (q3 W1.drew _ (HG.out.later (Below.drew B1.out)) (Sl.later (w := W1) (HX.out.later B1.out) (Below.drew (Below.refl _ _)))).mono ?_
 rintro e W2 ⟨v_u, rfl, o_u2, b2⟩
 have b2 : Below W1.heap.size W1 W2 := (Below.drew (Below.refl _ _)).trans b2
 refine hK.out _ _ ⟨(keepR (W := W1) hHeld.1 b2), (keepR (W := W1) hHeld.2.1 b2), (keepR (W := W1) hHeld.2.2.1 b2), (keepR (W := W1) hHeld.2.2.2.1 b2), (keepR (W := W1) hHeld.2.2.2.2.1 b2), (keepR (W := W1) hHeld.2.2.2.2.2.1 b2), (keepR (W := W1) hHeld.2.2.2.2.2.2 b2)⟩ (fun hHeld => ?_)
 clear hK K
 try simp only [Act.put, pu1, pu2, pu3, pu4, pu5, pu6]
 have o_u2 : Own W2 W1.heap.size W2.heap.size 5 _ _ := o_u2
 obtain ⟨ao_u, L_u, cap_u, rfl, hL_u, hM_u⟩ := o_u2.form
 have o_u2 : Hid (Own W2 W1.heap.size W2.heap.size 5 (.slice ao_u L_u cap_u) (bs Pb)) := o_u2
 clear hL_u hM_u
 have z2 : W1.heap.size ≤ W2.heap.size := b2.size
 have B2 : Hid (Below w.heap.size w W2) := B1.out.trans (b2.mono B1.out.size)
 have r_a2 : Hid (W2.heap[w.heap.size]? = some (.cells #[.slice ao0 l.length cap0, .int .i64 h.n, .string h.r, .slice ao1 b.length cap1, .int .i64 s] 37 (0, 0))) := rowKeep r_a1.out b2
 have r_h2 : Hid (W2.heap[w.heap.size + 1]? = some (.cells #[.int .i64 hd.n, .string hd.r] 28 (0, 0))) := rowKeep r_h1.out b2
 have r_res2 : Hid (W2.heap[w.heap.size + 1 + 1]? = some (.cells #[.slice none 0 0, .int .i64 0, .string ⟨#[]⟩, .slice none 0 0, .int .i64 0] 37 (0, 0))) := rowKeep r_res1.out b2
 clear r_a1 c_a1_0 c_a1_1 c_a1_2 c_a1_3 c_a1_4 r_h1 c_h1_0 c_h1_1 r_res1
 refine wpAnyH_ready (rs := [5]) (by kernel_rfl) (by simp) ?_
 refine AllReadyH.cons rfl (fun K hK => ?_) AllReadyH.nil
 go_simp
 refine hK.out _ _ ⟨(keepR (W := W2) hHeld.1 ((Below.refl _ _).alloc (Nat.le_refl _) _)), (keepR (W := W2) hHeld.2.1 ((Below.refl _ _).alloc (Nat.le_refl _) _)), (keepR (W := W2) hHeld.2.2.1 ((Below.refl _ _).alloc (Nat.le_refl _) _)), (keepR (W := W2) hHeld.2.2.2.1 ((Below.refl _ _).alloc (Nat.le_refl _) _)), (keepR (W := W2) hHeld.2.2.2.2.1 ((Below.refl _ _).alloc (Nat.le_refl _) _)), (keepR (W := W2) hHeld.2.2.2.2.2.1 ((Below.refl _ _).alloc (Nat.le_refl _) _)), (keepR (W := W2) hHeld.2.2.2.2.2.2 ((Below.refl _ _).alloc (Nat.le_refl _) _))⟩ (fun hHeld => ?_)
 clear hK K
 try simp only [Act.put, pu1, pu2, pu3, pu4, pu5, pu6]
 obtain ⟨W3, HW3, b3, ff3⟩ : ∃ X, Hid ((W2.alloc (.cells #[.slice ao1 b.length cap1, .slice ao_u L_u cap_u] 22)) = X) ∧ Below W2.heap.size W2 X ∧ Hid (Sl X (.slice (some ⟨W2.heap.size, 0, none⟩) 2 2) [.slice ao1 b.length cap1, .slice ao_u L_u cap_u]) := ⟨_, rfl, ((Below.refl _ _).alloc (Nat.le_refl _) _), slAlloc W2 [.slice ao1 b.length cap1, .slice ao_u L_u cap_u] 22⟩
 have HHW3 := HW3.out
 rw [HHW3] at hHeld ⊢
 clear HHW3
 have z3 : W2.heap.size ≤ W3.heap.size := b3.size
 have B3 : Hid (Below w.heap.size w W3) := B2.out.trans (b3.mono B2.out.size)
 have r_a3 : Hid (W3.heap[w.heap.size]? = some (.cells #[.slice ao0 l.length cap0, .int .i64 h.n, .string h.r, .slice ao1 b.length cap1, .int .i64 s] 37 (0, 0))) := rowKeep r_a2.out b3
 have r_h3 : Hid (W3.heap[w.heap.size + 1]? = some (.cells #[.int .i64 hd.n, .string hd.r] 28 (0, 0))) := rowKeep r_h2.out b3
 have r_res3 : Hid (W3.heap[w.heap.size + 1 + 1]? = some (.cells #[.slice none 0 0, .int .i64 0, .string ⟨#[]⟩, .slice none 0 0, .int .i64 0] 37 (0, 0))) := rowKeep r_res2.out b3
 have o_u3 : Hid (Own W3 (W1.heap.size) (W2.heap.size) 5 (.slice ao_u L_u cap_u) (bs Pb)) := Own.later o_u2.out b3 (by omega)
 clear r_a2 r_h2 r_res2 o_u2
 have f_ps3 : Hid (Sl W3 (.slice (some ⟨W2.heap.size, 0, none⟩) 2 2) [.slice ao1 b.length cap1, .slice ao_u L_u cap_u]) := ff3.out
 clear ff3
 have qj := joined_impl W3 _ _ [b, Pb] f_ps3.out rfl (part2 (HSB.out.later B3.out) o_u3.out.sl) (by simp) (by simp; omega)
 have e9 : [b, Pb].flatten = b ++ Pb := by simp
 rw [e9] at qj
 clear e9
 refine wpAnyH_ready (rs := [6]) (by kernel_rfl) (by simp) ?_
 refine AllReadyH.cons rfl (fun K hK => ?_) AllReadyH.nil
 go_simp
 refine (qj).mono ?_
 rintro e W4 ⟨v_z, rfl, o_z4, b4⟩
 refine hK.out _ _ ⟨(keepR (W := W3) hHeld.1 b4), (keepR (W := W3) hHeld.2.1 b4), (keepR (W := W3) hHeld.2.2.1 b4), (keepR (W := W3) hHeld.2.2.2.1 b4), (keepR (W := W3) hHeld.2.2.2.2.1 b4), (keepR (W := W3) hHeld.2.2.2.2.2.1 b4), (keepR (W := W3) hHeld.2.2.2.2.2.2 b4)⟩ (fun hHeld => ?_)
 clear hK K
 try simp only [Act.put, pu1, pu2, pu3, pu4, pu5, pu6]
 obtain ⟨ao_z, L_z, cap_z, rfl, hL_z, hM_z⟩ := o_z4.form
 have o_z4 : Hid (Own W4 W3.heap.size W4.heap.size 5 (.slice ao_z L_z cap_z) (bs (b ++ Pb))) := o_z4
 clear hL_z hM_z
 have z4 : W3.heap.size ≤ W4.heap.size := b4.size
 have B4 : Hid (Below w.heap.size w W4) := B3.out.trans (b4.mono B3.out.size)
 have r_a4 : Hid (W4.heap[w.heap.size]? = some (.cells #[.slice ao0 l.length cap0, .int .i64 h.n, .string h.r, .slice ao1 b.length cap1, .int .i64 s] 37 (0, 0))) := rowKeep r_a3.out b4
 have r_h4 : Hid (W4.heap[w.heap.size + 1]? = some (.cells #[.int .i64 hd.n, .string hd.r] 28 (0, 0))) := rowKeep r_h3.out b4
 have r_res4 : Hid (W4.heap[w.heap.size + 1 + 1]? = some (.cells #[.slice none 0 0, .int .i64 0, .string ⟨#[]⟩, .slice none 0 0, .int .i64 0] 37 (0, 0))) := rowKeep r_res3.out b4
 have c_a4_0 : W4.cell? ⟨w.heap.size, 0, none⟩ = some (.slice ao0 l.length cap0) := row_at r_a4.out 0
 have c_a4_1 : W4.cell? ⟨w.heap.size, 1, none⟩ = some (.int .i64 h.n) := row_at r_a4.out 1
 have c_a4_2 : W4.cell? ⟨w.heap.size, 2, none⟩ = some (.string h.r) := row_at r_a4.out 2
 have c_a4_3 : W4.cell? ⟨w.heap.size, 3, none⟩ = some (.slice ao1 b.length cap1) := row_at r_a4.out 3
 have c_a4_4 : W4.cell? ⟨w.heap.size, 4, none⟩ = some (.int .i64 s) := row_at r_a4.out 4
 have c_h4_0 : W4.cell? ⟨w.heap.size + 1, 0, none⟩ = some (.int .i64 hd.n) := row_at r_h4.out 0
 have c_h4_1 : W4.cell? ⟨w.heap.size + 1, 1, none⟩ = some (.string hd.r) := row_at r_h4.out 1
 clear r_a3 r_h3 r_res3 o_u3
 clear f_ps3
 (refine wpAnyH_take (i := 7) (v := ?v7x20) rfl (by kernel_rfl) (by kernel_rfl) (by kernel_rfl) (fun _ _ _ h => h) (Or.inl ⟨by rfl, ?hy7x20⟩) (by assumption) ?rest7x20; case hy7x20 => (intro w hSw; (try dsimp only at hSw); go_split_ands; go_simp; (try with_reducible rfl)))
 try simp only [Act.put, pu1, pu2, pu3, pu4, pu5, pu6]
 refine wpAnyH_done (by kernel_rfl) ?_ _
 clear hHeld
 have hLz : L_z ≤ b.length + Pb.length ∧ b.length + Pb.length ≤ L_z := by obtain ⟨a9, L9, c9, he, h1, h2⟩ := Mem.Own.form o_z4.out; injection he with _ he2 _; rw [bs_len, List.length_append] at h1 h2; omega
 skip
 by_cases h6 : (60000 : Int) < (L_z : Int)
 ·
  have HN : Hid (R = (⟨l, h, b, s⟩, 1)) := HI.out (by omega)
  clear o_z4
  go_wp2_with fail
  refine (q1 W4 _ _ (HS.out.later B4.out) (HSB.out.later B4.out)).mono ?_
  rintro e W5 ⟨v_s, v_p, rfl, o_s5, o_p5, b5⟩
  obtain ⟨lo_s, hi_s, lo_p, hi_p, d1_s, d2_s, d3_s, d4_s, d5_s, d6_s, d7_s, oo_s, oo_p⟩ := Sr.pairN o_s5 o_p5 b5.size
  clear o_s5 o_p5
  obtain ⟨ao_s, L_s, cap_s, rfl, _, _⟩ := oo_s.form
  obtain ⟨ao_p, L_p, cap_p, rfl, _, _⟩ := oo_p.form
  have o_s5 : Hid (Own W5 lo_s hi_s 9 (.slice ao_s L_s cap_s) (ss l)) := oo_s
  have o_p5 : Hid (Own W5 lo_p hi_p 5 (.slice ao_p L_p cap_p) (bs b)) := oo_p
  clear oo_s oo_p
  have B5 : Hid (Below w.heap.size w W5) := B4.out.trans (b5.mono B4.out.size)
  have r_res5 : Hid (W5.heap[w.heap.size + 1 + 1]? = some (.cells #[.slice none 0 0, .int .i64 0, .string ⟨#[]⟩, .slice none 0 0, .int .i64 0] 37 (0, 0))) := rowKeep r_res4.out b5
  clear r_a4 c_a4_0 c_a4_1 c_a4_2 c_a4_3 c_a4_4 r_h4 c_h4_0 c_h4_1 r_res4
  go_wp2_with (refine wpList_store_row rfl 37 _ _ rfl (w.heap.size + 1 + 1) (sc (.slice ao_s L_s cap_s) h (.slice ao_p L_p cap_p) s) rfl rfl 37 _ r_res5.out (sizeS _ _ _ _) rfl (oneS _ _ rfl rfl) ?_)
  refine bodyPost_ret (res_row_tmp rfl _ _ (w.heap.size + 1 + 1) 37 (sc (.slice ao_s L_s cap_s) h (.slice ao_p L_p cap_p) s) (0, 0) _ rfl (setRow_heap _ _ _ _ _ (0, 0) r_res5.out) Tryz.underlying37 rfl (sizeS _ _ _ _)) rfl ⟨.slice ao_s L_s cap_s, .slice ao_p L_p cap_p, by rw [HN.out]; rfl, ?_, ?_, below_setRow B5.out (by omega) _⟩
  ·
   rw [HN.out]
   exact (Own.setRow o_s5.out _ (by omega)).mono (by omega) (by rw [size_setRow]; omega)
  ·
   rw [HN.out]
   exact (Own.setRow o_p5.out _ (by omega)).mono (by omega) (by rw [size_setRow]; omega)
 ·
  have h7 : b.length + Pb.length ≤ 60000 := by omega
  go_wp2_with fail
  refine (q2 W4 _ _ _ (HG.out.later B4.out) (HF.out.later B4.out) (HS.out.later B4.out) (HT.out.later B4.out) (HX.out.later B4.out)).mono ?_
  rintro e W5 ⟨v_n, rfl, o_n5, b5⟩
  obtain ⟨ao_n, L_n, cap_n, rfl, hL_n, hM_n⟩ := o_n5.form
  have o_n5 : Hid (Own W5 W4.heap.size W5.heap.size 9 (.slice ao_n L_n cap_n) (ss L)) := o_n5
  clear hL_n hM_n
  have z5 : W4.heap.size ≤ W5.heap.size := b5.size
  have B5 : Hid (Below w.heap.size w W5) := B4.out.trans (b5.mono B4.out.size)
  have r_a5 : Hid (W5.heap[w.heap.size]? = some (.cells #[.slice ao0 l.length cap0, .int .i64 h.n, .string h.r, .slice ao1 b.length cap1, .int .i64 s] 37 (0, 0))) := rowKeep r_a4.out b5
  have r_res5 : Hid (W5.heap[w.heap.size + 1 + 1]? = some (.cells #[.slice none 0 0, .int .i64 0, .string ⟨#[]⟩, .slice none 0 0, .int .i64 0] 37 (0, 0))) := rowKeep r_res4.out b5
  have o_z5 : Hid (Own W5 (W3.heap.size) (W4.heap.size) 5 (.slice ao_z L_z cap_z) (bs (b ++ Pb))) := Own.later o_z4.out b5 (by omega)
  have c_a5_0 : W5.cell? ⟨w.heap.size, 0, none⟩ = some (.slice ao0 l.length cap0) := row_at r_a5.out 0
  have c_a5_1 : W5.cell? ⟨w.heap.size, 1, none⟩ = some (.int .i64 h.n) := row_at r_a5.out 1
  have c_a5_2 : W5.cell? ⟨w.heap.size, 2, none⟩ = some (.string h.r) := row_at r_a5.out 2
  have c_a5_3 : W5.cell? ⟨w.heap.size, 3, none⟩ = some (.slice ao1 b.length cap1) := row_at r_a5.out 3
  have c_a5_4 : W5.cell? ⟨w.heap.size, 4, none⟩ = some (.int .i64 s) := row_at r_a5.out 4
  clear r_a4 c_a4_0 c_a4_1 c_a4_2 c_a4_3 c_a4_4 r_h4 c_h4_0 c_h4_1 r_res4 o_z4
  have a_a5_0 : ∀ o, (W5.alloc o).cell? ⟨w.heap.size, 0, none⟩ = some (.slice ao0 l.length cap0) := fun o => keepR c_a5_0 ((Below.refl _ _).alloc (Nat.le_refl _) o)
  have a_a5_1 : ∀ o, (W5.alloc o).cell? ⟨w.heap.size, 1, none⟩ = some (.int .i64 h.n) := fun o => keepR c_a5_1 ((Below.refl _ _).alloc (Nat.le_refl _) o)
  have a_a5_2 : ∀ o, (W5.alloc o).cell? ⟨w.heap.size, 2, none⟩ = some (.string h.r) := fun o => keepR c_a5_2 ((Below.refl _ _).alloc (Nat.le_refl _) o)
  have a_a5_3 : ∀ o, (W5.alloc o).cell? ⟨w.heap.size, 3, none⟩ = some (.slice ao1 b.length cap1) := fun o => keepR c_a5_3 ((Below.refl _ _).alloc (Nat.le_refl _) o)
  have a_a5_4 : ∀ o, (W5.alloc o).cell? ⟨w.heap.size, 4, none⟩ = some (.int .i64 s) := fun o => keepR c_a5_4 ((Below.refl _ _).alloc (Nat.le_refl _) o)
  obtain ⟨W6, HW6, b6, y6, hS6, r_l6⟩ : ∃ X, Hid ((W5.alloc (.cells #[.slice ao_n L_n cap_n, .int .i64 H.n, .string H.r] 31)) = X) ∧ Below W5.heap.size W5 X ∧ W5.heap.size + 1 ≤ X.heap.size ∧ Hid (X.heap.size = W5.heap.size + 1) ∧ Hid (X.heap[W5.heap.size]? = some (.cells #[.slice ao_n L_n cap_n, .int .i64 H.n, .string H.r] 31 (0, 0))) := ⟨_, rfl, ((Below.refl _ _).alloc (Nat.le_refl _) _), by simp, by show _ = _; simp, (by show _ = _; exact alloc_nth1_0 W5 _)⟩
  have z6 : W5.heap.size ≤ W6.heap.size := b6.size
  have B6 : Hid (Below w.heap.size w W6) := B5.out.trans (b6.mono B5.out.size)
  have r_res6 : Hid (W6.heap[w.heap.size + 1 + 1]? = some (.cells #[.slice none 0 0, .int .i64 0, .string ⟨#[]⟩, .slice none 0 0, .int .i64 0] 37 (0, 0))) := rowKeep r_res5.out b6
  have o_z6 : Hid (Own W6 (W3.heap.size) (W4.heap.size) 5 (.slice ao_z L_z cap_z) (bs (b ++ Pb))) := Own.later o_z5.out b6 (by omega)
  have o_n6 : Hid (Own W6 (W4.heap.size) (W5.heap.size) 9 (.slice ao_n L_n cap_n) (ss L)) := Own.later o_n5.out b6 (by omega)
  clear r_a5 c_a5_0 c_a5_1 c_a5_2 c_a5_3 c_a5_4 r_res5 o_z5 o_n5
  by_cases hC : C = 0
  ·
   have HN : Hid (R = (⟨L, H, b ++ Pb, s⟩, 0)) := HH.out h7 hC
   subst hC
   go_wp2_with ((try rw [HW6.out]); refine wpList_store_row rfl 37 _ _ rfl (w.heap.size + 1 + 1) (sc (.slice ao_n L_n cap_n) H (.slice ao_z L_z cap_z) s) rfl rfl 37 _ r_res6.out (sizeS _ _ _ _) rfl (oneS _ _ rfl rfl) ?_)
   refine bodyPost_ret (res_row_tmp rfl _ _ (w.heap.size + 1 + 1) 37 (sc (.slice ao_n L_n cap_n) H (.slice ao_z L_z cap_z) s) (0, 0) _ rfl (setRow_heap _ _ _ _ _ (0, 0) r_res6.out) Tryz.underlying37 rfl (sizeS _ _ _ _)) rfl ⟨.slice ao_n L_n cap_n, .slice ao_z L_z cap_z, by rw [HN.out]; rfl, ?_, ?_, below_setRow B6.out (by omega) _⟩
   ·
    rw [HN.out]
    exact (Own.setRow o_n6.out _ (by omega)).mono (by omega) (by rw [size_setRow]; omega)
   ·
    rw [HN.out]
    exact (Own.setRow o_z6.out _ (by omega)).mono (by omega) (by rw [size_setRow]; omega)
  ·
   have cn : (C == 0) = false := by rw [beq_eq_false_iff_ne]; exact hC
   have cm : (C != 0) = true := by rw [bne, cn]; rfl
   have HN : Hid (R = (⟨l, h, b, s⟩, C)) := HJ.out h7 hC
   go_wp2_with fail
   rw [HW6.out]
   clear a_a5_0 a_a5_1 a_a5_2 a_a5_3 a_a5_4
   refine (q1 W6 _ _ (HS.out.later B6.out) (HSB.out.later B6.out)).mono ?_
   rintro e W7 ⟨v_s, v_p, rfl, o_s7, o_p7, b7⟩
   obtain ⟨lo_s, hi_s, lo_p, hi_p, d1_s, d2_s, d3_s, d4_s, d5_s, d6_s, d7_s, oo_s, oo_p⟩ := Sr.pairN o_s7 o_p7 b7.size
   clear o_s7 o_p7
   obtain ⟨ao_s, L_s, cap_s, rfl, _, _⟩ := oo_s.form
   obtain ⟨ao_p, L_p, cap_p, rfl, _, _⟩ := oo_p.form
   have o_s7 : Hid (Own W7 lo_s hi_s 9 (.slice ao_s L_s cap_s) (ss l)) := oo_s
   have o_p7 : Hid (Own W7 lo_p hi_p 5 (.slice ao_p L_p cap_p) (bs b)) := oo_p
   clear oo_s oo_p
   have B7 : Hid (Below w.heap.size w W7) := B6.out.trans (b7.mono B6.out.size)
   have r_res7 : Hid (W7.heap[w.heap.size + 1 + 1]? = some (.cells #[.slice none 0 0, .int .i64 0, .string ⟨#[]⟩, .slice none 0 0, .int .i64 0] 37 (0, 0))) := rowKeep r_res6.out b7
   clear r_res6 r_l6 o_z6 o_n6
   go_wp2_with (refine wpList_store_row rfl 37 _ _ rfl (w.heap.size + 1 + 1) (sc (.slice ao_s L_s cap_s) h (.slice ao_p L_p cap_p) s) rfl rfl 37 _ r_res7.out (sizeS _ _ _ _) rfl (oneS _ _ rfl rfl) ?_)
   refine bodyPost_ret (res_row_tmp rfl _ _ (w.heap.size + 1 + 1) 37 (sc (.slice ao_s L_s cap_s) h (.slice ao_p L_p cap_p) s) (0, 0) _ rfl (setRow_heap _ _ _ _ _ (0, 0) r_res7.out) Tryz.underlying37 rfl (sizeS _ _ _ _)) rfl ⟨.slice ao_s L_s cap_s, .slice ao_p L_p cap_p, by rw [HN.out]; rfl, ?_, ?_, below_setRow B7.out (by omega) _⟩
   ·
    rw [HN.out]
    exact (Own.setRow o_s7.out _ (by omega)).mono (by omega) (by rw [size_setRow]; omega)
   ·
    rw [HN.out]
    exact (Own.setRow o_p7.out _ (by omega)).mono (by omega) (by rw [size_setRow]; omega)
set_option maxRecDepth 1000000 in
set_option maxHeartbeats 8000000 in
theorem commit_impl (w : World) (v vb vt vx : Value) (st : Sto) (t : List Hd) (hd : Hd) (x : List ByteArray) {a0 a1 a2 a3 : Addr} (hG : Glob w) (hN : NoC w) (hF : Is.Four w a0 a1 a2 a3) (hs : Sl w v (ss st.l)) (hb : Sl w vb (bs st.b)) (hby : Byt st.b) (hst : Sh w vt t) (hsx : Sl w vx (ss x)) (hl : st.l.length ≤ 1000000000) (hbl : st.b.length ≤ 1000000000) (htl : t.length ≤ 1000000000) (hxl : x.length ≤ 1000000000)
  (hz : ∀ s ∈ st.l, s.size ≤ 10000000000) (hzx : ∀ s ∈ x, s.size ≤ 10000000000) (htx : Puts.tot x ≤ 100000000000) (hdr : hd.r.size ≤ 100000000000) (hhr : st.h.r.size ≤ 1000000000000) :
  Calls Tryz.prog 11 #[.agg #[v, .int .i64 st.h.n, .string st.h.r, vb, .int .i64 st.s], vt, .agg #[.int .i64 hd.n, .string hd.r], vx] w fun e w' => ∃ v' vb', e = .returned (.tuple #[.agg #[v', .int .i64 (commitP st t hd x).1.h.n, .string (commitP st t hd x).1.h.r, vb', .int .i64 (commitP st t hd x).1.s], .int .i64 (commitP st t hd x).2]) ∧ Own w' w.heap.size w'.heap.size 9 v' (ss (commitP st t hd x).1.l) ∧ Own w' w.heap.size w'.heap.size 5 vb' (bs (commitP st t hd x).1.b) ∧ Below w.heap.size w w' := by
 obtain ⟨R, hR⟩ : ∃ R, commitP st t hd x = R := ⟨_, rfl⟩
 have HR : Hid (commitP st t hd x = R) := hR
 rw [hR]
 have HG : Hid (Glob w) := hG
 have HF : Hid (Is.Four w a0 a1 a2 a3) := hF
 have HNC : Hid (NoC w) := hN
 obtain ⟨l, h, b, s⟩ := st
 simp only at *
 have HS : Hid (Sl w v (ss l)) := hs
 have HSB : Hid (Sl w vb (bs b)) := hb
 have HBY : Hid (Byt b) := hby
 have HT : Hid (Sh w vt t) := hst
 have HX : Hid (Sl w vx (ss x)) := hsx
 obtain ⟨ao0, cap0, rfl, hc0⟩ := hs.form
 obtain ⟨ao1, cap1, rfl, hc1⟩ := hb.form
 obtain ⟨ao2, cap2, rfl, hc2⟩ := hst.form
 obtain ⟨ao3, cap3, rfl, hc3⟩ := hsx.form
 simp only [ss_len, bs_len] at *
 clear hs hb hst hsx hR hG hF hby hN
 have B0 : Hid (Below w.heap.size w w) := Below.refl _ _
 obtain ⟨W1, HW1, b1, y1, hS1, r_a1, r_h1, r_res1⟩ : ∃ X, Hid ((((w.alloc (.cells #[.slice ao0 l.length cap0, .int .i64 h.n, .string h.r, .slice ao1 b.length cap1, .int .i64 s] 37)).alloc (.cells #[.int .i64 hd.n, .string hd.r] 28)).alloc (.cells #[.slice none 0 0, .int .i64 0, .string ⟨#[]⟩, .slice none 0 0, .int .i64 0] 37)) = X) ∧ Below w.heap.size w X ∧ w.heap.size + 3 ≤ X.heap.size ∧ Hid (X.heap.size = w.heap.size + 1 + 1 + 1) ∧ Hid (X.heap[w.heap.size]? = some (.cells #[.slice ao0 l.length cap0, .int .i64 h.n, .string h.r, .slice ao1 b.length cap1, .int .i64 s] 37 (0, 0))) ∧ Hid (X.heap[w.heap.size + 1]? = some (.cells #[.int .i64 hd.n, .string hd.r] 28 (0, 0))) ∧ Hid (X.heap[w.heap.size + 1 + 1]? = some (.cells #[.slice none 0 0, .int .i64 0, .string ⟨#[]⟩, .slice none 0 0, .int .i64 0] 37 (0, 0))) := ⟨_, rfl, ((((Below.refl _ _).alloc (Nat.le_refl _) _).alloc (by simp) _).alloc (by simp; omega) _), by simp, by show _ = _; simp, (by show _ = _; exact alloc_nth3_0 w _ _ _), (by show _ = _; exact alloc_nth3_1 w _ _ _), (by show _ = _; exact alloc_nth3_2 w _ _ _)⟩
 have B1 : Hid (Below w.heap.size w W1) := B0.out.trans (b1.mono B0.out.size)
 have q0 : ∀ W v1 v2, Glob W → NoC W → Sl W v1 (ss l) → Sl W v2 (bs b) → _ := fun W v1 v2 g0 g1 h1 h2 => storeok_impl W v1 v2 ⟨l, h, b, s⟩ g0 g1 h1 h2 HBY.out hl hbl hz
 have q1 : ∀ W v1 v2, Sl W v1 (ss l) → Sl W v2 (bs b) → _ := fun W v1 v2 h1 h2 => ownstore_impl W v1 v2 ⟨l, h, b, s⟩ h1 h2 hl hbl (fun s hs => Nat.le_trans (hz s hs) (by omega)) hhr
 have q2 : ∀ W v1 v2 v3 v4, Glob W → Is.Four W a0 a1 a2 a3 → Sl W v1 (ss l) → Sl W v2 (bs b) → Sh W v3 t → Sl W v4 (ss x) → _ := fun W v1 v2 v3 v4 g0 g1 h1 h2 h3 h4 => withc_impl W v1 v2 v3 v4 ⟨l, h, b, s⟩ t hd x g0 g1 h1 h2 h3 h4 hl hbl htl hxl hz hzx htx hdr hhr
 obtain ⟨A, hA⟩ : ∃ A, storeOk ⟨l, h, b, s⟩ = A := ⟨_, rfl⟩
 simp only [hA] at q0
 have HA : Hid (storeOk ⟨l, h, b, s⟩ = A) := hA
 obtain ⟨E, hE⟩ : ∃ E, commitQ ⟨l, h, b, s⟩ t hd x = E := ⟨_, rfl⟩
 simp only [hE] at q2
 have HE : Hid (commitQ ⟨l, h, b, s⟩ t hd x = E) := hE
 obtain ⟨⟨L, H, B, S⟩, C⟩ := E
 simp only at q0 q1 q2
 clear hE hA hz hzx htx hdr
 go_enter Tryz.func11, Tryz.ntmps11
 go_wp2_with fail
 rw [HW1.out]
 refine (q0 W1 _ _ (HG.out.later B1.out) (HNC.out.later B1.out) (HS.out.later B1.out) (HSB.out.later B1.out)).mono ?_
 rintro e W2 ⟨rfl, b2⟩
 have z2 : W1.heap.size ≤ W2.heap.size := b2.size
 have B2 : Hid (Below w.heap.size w W2) := B1.out.trans (b2.mono B1.out.size)
 have r_a2 : Hid (W2.heap[w.heap.size]? = some (.cells #[.slice ao0 l.length cap0, .int .i64 h.n, .string h.r, .slice ao1 b.length cap1, .int .i64 s] 37 (0, 0))) := rowKeep r_a1.out b2
 have r_h2 : Hid (W2.heap[w.heap.size + 1]? = some (.cells #[.int .i64 hd.n, .string hd.r] 28 (0, 0))) := rowKeep r_h1.out b2
 have r_res2 : Hid (W2.heap[w.heap.size + 1 + 1]? = some (.cells #[.slice none 0 0, .int .i64 0, .string ⟨#[]⟩, .slice none 0 0, .int .i64 0] 37 (0, 0))) := rowKeep r_res1.out b2
 have c_a2_0 : W2.cell? ⟨w.heap.size, 0, none⟩ = some (.slice ao0 l.length cap0) := row_at r_a2.out 0
 have c_a2_1 : W2.cell? ⟨w.heap.size, 1, none⟩ = some (.int .i64 h.n) := row_at r_a2.out 1
 have c_a2_2 : W2.cell? ⟨w.heap.size, 2, none⟩ = some (.string h.r) := row_at r_a2.out 2
 have c_a2_3 : W2.cell? ⟨w.heap.size, 3, none⟩ = some (.slice ao1 b.length cap1) := row_at r_a2.out 3
 have c_a2_4 : W2.cell? ⟨w.heap.size, 4, none⟩ = some (.int .i64 s) := row_at r_a2.out 4
 have c_h2_0 : W2.cell? ⟨w.heap.size + 1, 0, none⟩ = some (.int .i64 hd.n) := row_at r_h2.out 0
 have c_h2_1 : W2.cell? ⟨w.heap.size + 1, 1, none⟩ = some (.string hd.r) := row_at r_h2.out 1
 clear r_a1 r_h1 r_res1
 cases A
 ·
  have HN : Hid (R = (⟨l, h, b, s⟩, 1)) := by show _ = _; rw [← HR.out]; unfold commitP; rw [HA.out]; rfl
  go_wp2_with fail
  refine (q1 W2 _ _ (HS.out.later B2.out) (HSB.out.later B2.out)).mono ?_
  rintro e W3 ⟨v_s, v_p, rfl, o_s3, o_p3, b3⟩
  obtain ⟨lo_s, hi_s, lo_p, hi_p, d1_s, d2_s, d3_s, d4_s, d5_s, d6_s, d7_s, oo_s, oo_p⟩ := Sr.pairN o_s3 o_p3 b3.size
  clear o_s3 o_p3
  obtain ⟨ao_s, L_s, cap_s, rfl, _, _⟩ := oo_s.form
  obtain ⟨ao_p, L_p, cap_p, rfl, _, _⟩ := oo_p.form
  have o_s3 : Hid (Own W3 lo_s hi_s 9 (.slice ao_s L_s cap_s) (ss l)) := oo_s
  have o_p3 : Hid (Own W3 lo_p hi_p 5 (.slice ao_p L_p cap_p) (bs b)) := oo_p
  clear oo_s oo_p
  have B3 : Hid (Below w.heap.size w W3) := B2.out.trans (b3.mono B2.out.size)
  have r_res3 : Hid (W3.heap[w.heap.size + 1 + 1]? = some (.cells #[.slice none 0 0, .int .i64 0, .string ⟨#[]⟩, .slice none 0 0, .int .i64 0] 37 (0, 0))) := rowKeep r_res2.out b3
  clear r_a2 c_a2_0 c_a2_1 c_a2_2 c_a2_3 c_a2_4 r_h2 c_h2_0 c_h2_1 r_res2
  go_wp2_with (refine wpList_store_row rfl 37 _ _ rfl (w.heap.size + 1 + 1) (sc (.slice ao_s L_s cap_s) h (.slice ao_p L_p cap_p) s) rfl rfl 37 _ r_res3.out (sizeS _ _ _ _) rfl (oneS _ _ rfl rfl) ?_)
  refine bodyPost_ret (res_row_tmp rfl _ _ (w.heap.size + 1 + 1) 37 (sc (.slice ao_s L_s cap_s) h (.slice ao_p L_p cap_p) s) (0, 0) _ rfl (setRow_heap _ _ _ _ _ (0, 0) r_res3.out) Tryz.underlying37 rfl (sizeS _ _ _ _)) rfl ⟨.slice ao_s L_s cap_s, .slice ao_p L_p cap_p, by rw [HN.out]; rfl, ?_, ?_, below_setRow B3.out (by omega) _⟩
  ·
   rw [HN.out]
   exact (Own.setRow o_s3.out _ (by omega)).mono (by omega) (by rw [size_setRow]; omega)
  ·
   rw [HN.out]
   exact (Own.setRow o_p3.out _ (by omega)).mono (by omega) (by rw [size_setRow]; omega)
 ·
  have HN : Hid (R = (⟨L, H, B, S⟩, C)) := by show _ = _; rw [← HR.out]; unfold commitP; rw [HA.out, if_pos rfl]; exact HE.out
  go_wp2_with fail
  refine (q2 W2 _ _ _ _ (HG.out.later B2.out) (HF.out.later B2.out) (HS.out.later B2.out) (HSB.out.later B2.out) (HT.out.later B2.out) (HX.out.later B2.out)).mono ?_
  rintro e W3 ⟨v_s, v_p, rfl, o_s3, o_p3, b3⟩
  obtain ⟨lo_s, hi_s, lo_p, hi_p, d1_s, d2_s, d3_s, d4_s, d5_s, d6_s, d7_s, oo_s, oo_p⟩ := Sr.pairN o_s3 o_p3 b3.size
  clear o_s3 o_p3
  obtain ⟨ao_s, L_s, cap_s, rfl, _, _⟩ := oo_s.form
  obtain ⟨ao_p, L_p, cap_p, rfl, _, _⟩ := oo_p.form
  have o_s3 : Hid (Own W3 lo_s hi_s 9 (.slice ao_s L_s cap_s) (ss L)) := oo_s
  have o_p3 : Hid (Own W3 lo_p hi_p 5 (.slice ao_p L_p cap_p) (bs B)) := oo_p
  clear oo_s oo_p
  have B3 : Hid (Below w.heap.size w W3) := B2.out.trans (b3.mono B2.out.size)
  have r_res3 : Hid (W3.heap[w.heap.size + 1 + 1]? = some (.cells #[.slice none 0 0, .int .i64 0, .string ⟨#[]⟩, .slice none 0 0, .int .i64 0] 37 (0, 0))) := rowKeep r_res2.out b3
  clear r_a2 c_a2_0 c_a2_1 c_a2_2 c_a2_3 c_a2_4 r_h2 c_h2_0 c_h2_1 r_res2
  go_wp2_with (refine wpList_store_row rfl 37 _ _ rfl (w.heap.size + 1 + 1) (sc (.slice ao_s L_s cap_s) H (.slice ao_p L_p cap_p) S) rfl rfl 37 _ r_res3.out (sizeS _ _ _ _) rfl (oneS _ _ rfl rfl) ?_)
  refine bodyPost_ret (res_row_tmp rfl _ _ (w.heap.size + 1 + 1) 37 (sc (.slice ao_s L_s cap_s) H (.slice ao_p L_p cap_p) S) (0, 0) _ rfl (setRow_heap _ _ _ _ _ (0, 0) r_res3.out) Tryz.underlying37 rfl (sizeS _ _ _ _)) rfl ⟨.slice ao_s L_s cap_s, .slice ao_p L_p cap_p, by rw [HN.out]; rfl, ?_, ?_, below_setRow B3.out (by omega) _⟩
  ·
   rw [HN.out]
   exact (Own.setRow o_s3.out _ (by omega)).mono (by omega) (by rw [size_setRow]; omega)
  ·
   rw [HN.out]
   exact (Own.setRow o_p3.out _ (by omega)).mono (by omega) (by rw [size_setRow]; omega)
theorem tot_txs : ∀ l : List ByteArray, Puts.tot l ≤ (Puts.txs l).length := by
 intro l
 induction l with
 | nil => exact Nat.le_refl _
 | cons a r ih =>
  have : (Puts.tx a).length = (Puts.num (a.size : Int)).length + a.size := by unfold Puts.tx; rw [List.length_append, sb_len]
  simp only [Puts.txs, Puts.tot, List.length_append]
  omega
theorem tot_body (h : Hd) (x : List ByteArray) : Puts.tot x ≤ (body h x).length := by
 have := tot_txs x
 unfold body
 simp only [List.length_append]
 omega
end Go.Proofs.YtfpaichdkddglaaGreatDoor.Sr
