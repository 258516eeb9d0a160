/- Texts in one: SrA, SrC, Mg2, Mi2, Sz2, LgH. -/
import Derived.Test.YtchonoonclllbabGreatDoorPb6
import Derived.Test.YtchonoonclllbabGreatDoorPb12
import Derived.Test.YtchonoonclllbabGreatDoorPb10
import Derived.Test.YtchonoonclllbabGreatDoorPb5
import Derived.Test.YtchonoonclllbabGreatDoorPb11
namespace Go.Proofs.YtchonoonclllbabGreatDoor.Sr
open Go.RowKit Go.Proofs.YtchonoonclllbabGreatDoor.Mem Go.Proofs.YtchonoonclllbabGreatDoor.Laws Go.Proofs.YtchonoonclllbabGreatDoor.Bytes Go.Proofs.YtchonoonclllbabGreatDoor.Sha Go.Proofs.YtchonoonclllbabGreatDoor.Tr Go.Proofs.YtchonoonclllbabGreatDoor.He Go.Proofs.YtchonoonclllbabGreatDoor.Lg
set_option linter.unusedVariables false
set_option linter.unusedSimpArgs false
theorem dig4 (Y : List Int) : (Plain.txt (digest Y)).size = 32 ∧ ((Plain.txt (digest Y)).extract 0 4).size = 4 ∧ sb ((Plain.txt (digest Y)).extract 0 4) = sum4 Y := by
 have h32 : (Plain.txt (digest Y)).size = 32 := by rw [txt_size, digest_len]
 have e : sb (Plain.txt (digest Y)) = digest Y := sb_txt (digest_byt Y)
 have e2 : sb ((Plain.txt (digest Y)).extract 0 4) = (sb (Plain.txt (digest Y))).take 4 := by
  unfold sb
  rw [ByteArray.data_extract, Array.toList_extract, ← List.map_take]
  simp [List.extract]
 refine ⟨h32, ?_, ?_⟩
 ·
  have h4 : (sb ((Plain.txt (digest Y)).extract 0 4)).length = 4 := by rw [e2, e, List.length_take, digest_len]; rfl
  rw [sb_len] at h4
  exact h4
 ·
  rw [e2, e]; rfl
set_option maxRecDepth 1000000 in
set_option maxHeartbeats 4000000 in
theorem put_spec (w : World) (h : Hd) (v : Value) (x : List ByteArray) (hs : Sl w v (ss x)) (hl : x.length ≤ 1000000000) (ht : Puts.tot x ≤ 100000000000) (hr : h.r.size ≤ 100000000000) :
  Calls Tryz.prog 106 #[.agg #[.int .i64 h.n, .string h.r], v] w fun e w' => ∃ v', e = .returned v' ∧ Own w' w.heap.size w'.heap.size 5 v' (bs (put h x)) ∧ Below w.heap.size w w' := by
 have HS : Hid (Sl w v (ss x)) := hs
 have htl := Puts.txs_len x
 have hbl := body_len h x
 have n1 := (Puts.num_len h.n).2
 have n2 := Puts.tx_len h.r
 obtain ⟨ao0, cap0, rfl, hc0⟩ := hs.form
 rw [ss_len] at *
 clear hs
 have B0 : Hid (Below w.heap.size w w) := Below.refl _ _
 have HT : Hid ((Puts.txs x).length ≤ 5 * x.length + Puts.tot x) := htl
 clear htl
 obtain ⟨i5, hi5, hz5a, hz5b, hz5c⟩ := info_parts info5
 obtain ⟨W1, HW1, b1, y1, hS1, r_h1⟩ := Ke.l1 w #[.int .i64 h.n, .string h.r] 38
 have z1 := b1.size
 have B1 := Ke.b B0 b1
 have c_h1 := Ke.c r_h1
 go_enter Tryz.func106, Tryz.ntmps106
 go_wp2_with fail
 rw [HW1.out]
 refine wp_region_held_drew (S := fun w' => w'.cell? ⟨w.heap.size, 0, none⟩ = some (.int .i64 h.n) ∧ w'.cell? ⟨w.heap.size, 1, none⟩ = some (.string h.r)) (by kernel_rfl) ⟨(c_h1 0), (c_h1 1)⟩ (fun hHeld => ?_)
 refine Ke.y 1 rfl (fun _ _ _ h => h) ?_
 try simp only [Act.put, pu1, pu2, pu3, pu4, pu5, pu6]
 refine Ke.y 2 rfl (fun _ _ _ h => h) ?_
 try simp only [Act.put, pu1, pu2, pu3, pu4, pu5, pu6]
 refine Ke.y 4 rfl (fun _ _ _ h => h) ?_
 try simp only [Act.put, pu1, pu2, pu3, pu4, pu5, pu6]
 refine Ke.y 5 rfl (fun _ _ _ h => h) ?_
 try simp only [Act.put, pu1, pu2, pu3, pu4, pu5, pu6]
 refine Ke.y 7 rfl (fun _ _ _ h => h) ?_
 try simp only [Act.put, pu1, pu2, pu3, pu4, pu5, pu6]
 refine Ke.z 0 rfl (fun K hK => ?_)
 go_simp
 refine hK.out _ _ ⟨(keepR (W := W1.drew) hHeld.1 ((Below.refl _ _).alloc (Nat.le_refl _) _)), (keepR (W := W1.drew) hHeld.2 ((Below.refl _ _).alloc (Nat.le_refl _) _))⟩ (fun hHeld => ?_)
 clear hK K
 try simp only [Act.put, pu1, pu2, pu3, pu4, pu5, pu6]
 obtain ⟨W2, HW2, b2, o_e2⟩ : ∃ X, Hid ((W1.alloc (.cells #[] 5)).drew = X) ∧ Below W1.heap.size W1 X ∧ Hid (Own X W1.heap.size X.heap.size 5 (.slice (some ⟨W1.heap.size, 0, none⟩) 0 0) (bs [])) := ⟨_, rfl, (Below.drew ((Below.refl _ _).alloc (Nat.le_refl _) _)), Puts.Own.empty W1 W1.heap.size (Nat.le_refl _)⟩
 have HHW2 := HW2.out
 rw [HHW2] at hHeld ⊢
 clear HHW2
 have z2 := b2.size
 have B2 := Ke.b B1 b2
 clear r_h1 c_h1
 refine Ke.z 3 rfl (fun K hK => ?_)
 go_simp
 refine (Puts.put_spec W2 _ [] h.n o_e2.out.sl (by simp)).mono ?_
 rintro e W3 ⟨v_a, rfl, o_a3, b3⟩
 refine hK.out _ _ ⟨(keepR (W := W2) hHeld.1 b3), (keepR (W := W2) hHeld.2 b3)⟩ (fun hHeld => ?_)
 clear hK K
 try simp only [Act.put, pu1, pu2, pu3, pu4, pu5, pu6]
 obtain ⟨ao_a, L_a, cap_a, rfl, hL_a, hM_a⟩ := o_a3.form
 have o_a3 : Hid (Own W3 W2.heap.size W3.heap.size 5 (.slice ao_a L_a cap_a) (bs ([] ++ Puts.num h.n))) := o_a3
 clear hL_a hM_a
 have z3 := b3.size
 have B3 := Ke.b B2 b3
 clear o_e2
 refine Ke.z 6 rfl (fun K hK => ?_)
 go_simp
 refine (Puts.putt_spec W3 _ ([] ++ Puts.num h.n) h.r o_a3.out.sl (by rw [List.nil_append]; omega) (by omega)).mono ?_
 rintro e W4 ⟨v_b, rfl, o_b4, b4⟩
 refine hK.out _ _ ⟨(keepR (W := W3) hHeld.1 b4), (keepR (W := W3) hHeld.2 b4)⟩ (fun hHeld => ?_)
 clear hK K
 try simp only [Act.put, pu1, pu2, pu3, pu4, pu5, pu6]
 obtain ⟨ao_b, L_b, cap_b, rfl, hL_b, hM_b⟩ := o_b4.form
 have o_b4 : Hid (Own W4 W3.heap.size W4.heap.size 5 (.slice ao_b L_b cap_b) (bs ([] ++ Puts.num h.n ++ Puts.tx h.r))) := o_b4
 clear hL_b hM_b
 have z4 := b4.size
 have B4 := Ke.b B3 b4
 clear o_a3
 refine Ke.z 8 rfl (fun K hK => ?_)
 go_simp
 refine (Puts.putts_spec W4 _ _ ([] ++ Puts.num h.n ++ Puts.tx h.r) x o_b4.out.sl (HS.out.later B4.out) (by have := HT.out; rw [List.nil_append, List.length_append]; omega) (by omega)).mono ?_
 rintro e W5 ⟨v_c, rfl, o_c5, b5⟩
 refine hK.out _ _ ⟨(keepR (W := W4) hHeld.1 b5), (keepR (W := W4) hHeld.2 b5)⟩ (fun hHeld => ?_)
 clear hK K
 try simp only [Act.put, pu1, pu2, pu3, pu4, pu5, pu6]
 obtain ⟨ao_c, L_c, cap_c, rfl, hL_c, hM_c⟩ := o_c5.form
 have o_c5 : Hid (Own W5 W4.heap.size W5.heap.size 5 (.slice ao_c L_c cap_c) (bs ([] ++ Puts.num h.n ++ Puts.tx h.r ++ Puts.num (x.length : Int) ++ Puts.txs x))) := o_c5
 clear hL_c hM_c
 have z5 := b5.size
 have B5 := Ke.b B4 b5
 clear o_b4
 refine Ke.y 9 rfl (fun _ _ _ h => h) ?_
 try simp only [Act.put, pu1, pu2, pu3, pu4, pu5, pu6]
 refine wpAnyH_done (by kernel_rfl) ?_ _
 clear hHeld
 obtain ⟨Y, hY⟩ : ∃ Y, body h x = Y := ⟨_, rfl⟩
 have o_c5 : Hid (Own W5 (W4.heap.size) (W5.heap.size) 5 (.slice ao_c L_c cap_c) (bs Y)) := by show Own _ _ _ _ _ _; have h9 := o_c5.out; have e9 : [] ++ Puts.num h.n ++ Puts.tx h.r ++ Puts.num (x.length : Int) ++ Puts.txs x = Y := by { rw [← hY]; unfold body; simp only [List.nil_append, List.append_assoc] }; rw [e9] at h9; exact h9
 have hLc : L_c ≤ Y.length ∧ Y.length ≤ L_c := by obtain ⟨a9, L9, c9, he, h1, h2⟩ := Mem.Own.form o_c5.out; injection he with _ he2 _; rw [bs_len] at h1 h2; omega
 have hYb : Y.length ≤ h.r.size + 15 + 5 * x.length + Puts.tot x := by rw [← hY]; exact hbl
 have hYB : Byt Y := by rw [← hY]; exact body_byt h x
 have HY : Hid (body h x = Y) := hY
 have HYB : Hid (Byt Y) := hYB
 clear hY hbl hYB
 obtain ⟨W6, HW6, b6, o_n6⟩ : ∃ X, Hid ((W5.alloc (.cells #[] 5)) = X) ∧ Below W5.heap.size W5 X ∧ Hid (Own X W5.heap.size X.heap.size 5 (.slice (some ⟨W5.heap.size, 0, none⟩) 0 0) (bs [])) := ⟨_, rfl, (Below.refl _ _).alloc (Nat.le_refl _) _, Puts.Own.empty W5 W5.heap.size (Nat.le_refl _)⟩
 have z6 := b6.size
 have B6 := Ke.b B5 b6
 have o_c6 := Ke.o o_c5 b6
 clear o_c5
 have hLe : (L_c : Int) = (Y.length : Int) := by omega
 have HLE : Hid ((L_c : Int) = (Y.length : Int)) := hLe
 clear hLe
 go_wp2_with fail
 rw [HW6.out]
 refine (Puts.put_spec W6 _ [] (L_c : Int) o_n6.out.sl (by simp)).mono ?_
 rintro e W7 ⟨v_m, rfl, o_m7, b7⟩
 obtain ⟨ao_m, L_m, cap_m, rfl, hL_m, hM_m⟩ := o_m7.form
 have o_m7 : Hid (Own W7 W6.heap.size W7.heap.size 5 (.slice ao_m L_m cap_m) (bs ([] ++ Puts.num (L_c : Int)))) := o_m7
 clear hL_m hM_m
 have z7 := b7.size
 have B7 := Ke.b B6 b7
 have o_c7 := Ke.o o_c6 b7
 clear o_c6 o_n6
 obtain ⟨N, hN⟩ : ∃ N, Puts.num (L_c : Int) = N := ⟨_, rfl⟩
 have n3 := (Puts.num_len (L_c : Int)).2
 rw [hN] at n3
 have o_m7 : Hid (Own W7 (W6.heap.size) (W7.heap.size) 5 (.slice ao_m L_m cap_m) (bs N)) := by show Own _ _ _ _ _ _; have h9 := o_m7.out; rw [hN, List.nil_append] at h9; exact h9
 have HN : Hid (Puts.num (Y.length : Int) = N) := by show _ = _; rw [← HLE.out, hN]
 clear hN
 have c6_8 : (bs N).length + (bs Y).length ≤ maxLen := by rw [bs_len, bs_len]; unfold maxLen; (try simp only [List.length_nil]); omega
 have c7_8 : ((bs N).length + (bs Y).length) * 1 ≤ 140737488355328 := by rw [bs_len, bs_len]; (try simp only [List.length_nil]); omega
 have sE8 : Hid (Sl W7 _ (bs Y)) := o_c7.out.sl
 go_wp2_with (at_builtin; go_must (refine wpl_app _ rfl (.tmp 19) (.tmp 20) 27 rfl 5 i5 (.int .u8 0) 1 Tryz.underlying27 hi5 hz5a hz5b hz5c rfl (W6.heap.size) _ (bs N) rfl (Own.mono o_m7.out (Nat.le_refl _) (by omega)) _ rfl (bs Y) sE8.out (bs_one Y) c6_8 c7_8 (by omega) ?_))
 intro v_p W8 o_p8 _ g8
 have o_p8 : Own W8 (W6.heap.size) W8.heap.size 5 v_p (bs (N ++ Y)) := by show Own _ _ _ _ _ _; rw [bs_app]; exact o_p8
 have o_p8h : Hid (Own W8 (W6.heap.size) W8.heap.size 5 v_p (bs (N ++ Y))) := o_p8
 clear o_p8
 have o_p8 := o_p8h
 clear o_p8h
 obtain ⟨ao_p, L_p, cap_p, rfl, _, _⟩ := Mem.Own.form o_p8.out
 have z8 := g8.size
 have B8 : Hid (Below w.heap.size w W8) := belowGro B7.out g8 B7.out.size (Own.low o_m7.out (by have := B7.out.size; omega))
 have o_c8 : Hid (Own W8 (W4.heap.size) (W5.heap.size) 5 (.slice ao_c L_c cap_c) (bs Y)) := Own.gro o_c7.out g8 (Own.neFar o_m7.out o_c7.out (by omega))
 clear o_c7 o_m7
 clear g8 sE8 c6_8 c7_8
 obtain ⟨d1, d2, d3⟩ := dig4 Y
 have qd : ∀ W v1, Sl W v1 (bs Y) → _ := fun W v1 h1 => digest_spec W v1 Y h1 HYB.out (by omega)
 obtain ⟨D, hD⟩ : ∃ D, Plain.txt (digest Y) = D := ⟨_, rfl⟩
 rw [hD] at d1 d2 d3
 simp only [hD] at qd
 have dd : ¬ ((D.size : Int) < 4) := by omega
 have dn : 4 ≤ D.size := by omega
 obtain ⟨T, hT⟩ : ∃ T, D.extract 0 4 = T := ⟨_, rfl⟩
 rw [hT] at d2 d3
 have HT4 : Hid (sb T = sum4 Y) := d3
 have hTs : T.size ≤ 4 := by omega
 clear d1 d2 d3 hD
 go_wp2_with fail
 refine (qd W8 _ o_c8.out.sl).mono ?_
 rintro e W9 ⟨rfl, b9⟩
 have z9 := b9.size
 have B9 := Ke.b B8 b9
 have o_p9 := Ke.o o_p8 b9
 clear o_c8 o_p8
 have c6_10 : ((N ++ Y)).length + (T).size ≤ 140737488355328 := by rw [List.length_append]; omega
 go_wp2_with (at_builtin; go_must (refine wpl_strG _ rfl (.tmp 22) (.tmp 25) 27 9 rfl 5 i5 Tryz.underlying27 Tryz.underlying9 hi5 hz5a hz5b hz5c (W6.heap.size) _ ((N ++ Y)) rfl (Own.mono o_p9.out (Nat.le_refl _) (by omega)) (T) rfl c6_10 (by omega) ?_))
 intro v_z W10 o_z10 g10
 have o_z10 : Own W10 (W6.heap.size) W10.heap.size 5 v_z (bs (N ++ (Y ++ sb T))) := o_z10
 have o_z10h : Hid (Own W10 (W6.heap.size) W10.heap.size 5 v_z (bs (N ++ (Y ++ sb T)))) := o_z10
 clear o_z10
 have o_z10 := o_z10h
 clear o_z10h
 obtain ⟨ao_z, L_z, cap_z, rfl, _, _⟩ := Mem.Own.form o_z10.out
 have z10 := g10.size
 have B10 : Hid (Below w.heap.size w W10) := belowGro B9.out g10 B9.out.size (Own.low o_p9.out (by have := B9.out.size; omega))
 clear o_p9
 clear g10 c6_10
 go_wp2
 go_ret
 refine ⟨_, rfl, ?_, B10.out⟩
 have e9 : put h x = N ++ (Y ++ sb T) := by unfold put; rw [HY.out, HN.out, HT4.out]
 rw [e9]
 exact Own.mono o_z10.out (by omega) (Nat.le_refl _)
def sc (v : Value) (h : Hd) (b : Value) (s : Int) : Array Value := #[v, .int .i64 h.n, .string h.r, b, .int .i64 s]
theorem sizeS (v : Value) (h : Hd) (b : Value) (s : Int) : (Tryz.prog.info? 42).map (·.size) = some (sc v h b s).size := by
 show _ = some 5
 kernel_rfl
theorem oneS {v b : Value} (h : Hd) (s : Int) (hv : v.oneCell' = true) (hb : b.oneCell' = true) : (sc v h b s).all (·.oneCell') = true := by
 simp [sc, Value.oneCell']
 exact ⟨hv, hb⟩
set_option maxRecDepth 1000000 in
set_option maxHeartbeats 4000000 in
theorem copy_spec (w : World) (v vb : Value) (st : Sto) (hs : Sl w v (ss st.l)) (hb : Sl w vb (bs st.b)) (hl : st.l.length ≤ 1000000000) (hbl : st.b.length ≤ 1000000000) :
  Calls Tryz.prog 67 #[.agg #[v, .int .i64 st.h.n, .string st.h.r, vb, .int .i64 st.s]] w fun e w' => ∃ v' vb', e = .returned (.agg #[v', .int .i64 st.h.n, .string st.h.r, vb', .int .i64 st.s]) ∧ Own w' w.heap.size w'.heap.size 9 v' (ss st.l) ∧ Own w' w.heap.size w'.heap.size 5 vb' (bs st.b) ∧ Below w.heap.size w w' := by
 obtain ⟨l, h, b, s⟩ := st
 simp only at *
 have HS : Hid (Sl w v (ss l)) := hs
 have HSB : Hid (Sl w vb (bs b)) := hb
 obtain ⟨ao0, cap0, rfl, hc0⟩ := hs.form
 obtain ⟨ao1, cap1, rfl, hc1⟩ := hb.form
 rw [ss_len] at *
 rw [bs_len] at *
 clear hs hb
 have B0 : Hid (Below w.heap.size w w) := Below.refl _ _
 obtain ⟨i5, hi5, hz5a, hz5b, hz5c⟩ := info_parts info5
 obtain ⟨W1, HW1, b1, y1, hS1, r_a1, r_res1⟩ := Ke.l2 w #[.slice ao0 l.length cap0, .int .i64 h.n, .string h.r, .slice ao1 b.length cap1, .int .i64 s] 42 #[.slice none 0 0, .int .i64 0, .string ⟨#[]⟩, .slice none 0 0, .int .i64 0] 42
 have z1 := b1.size
 have B1 := Ke.b B0 b1
 have c_a1 := Ke.c r_a1
 have q : ∀ W v1, Sl W v1 (ss l) → _ := fun W v1 h1 => Lg.copy_spec W v1 l h h1 hl
 go_enter Tryz.func67, Tryz.ntmps67
 go_wp2_with fail
 rw [HW1.out]
 refine wp_region_held_drew (S := fun w' => w'.cell? ⟨w.heap.size, 0, none⟩ = some (.slice ao0 l.length cap0) ∧ w'.cell? ⟨w.heap.size, 1, none⟩ = some (.int .i64 h.n) ∧ w'.cell? ⟨w.heap.size, 2, none⟩ = some (.string h.r) ∧ w'.cell? ⟨w.heap.size, 3, none⟩ = some (.slice ao1 b.length cap1) ∧ w'.cell? ⟨w.heap.size, 4, none⟩ = some (.int .i64 s)) (by kernel_rfl) ⟨(c_a1 0), (c_a1 1), (c_a1 2), (c_a1 3), (c_a1 4)⟩ (fun hHeld => ?_)
 refine Ke.y 0 rfl (fun _ _ _ h => h) ?_
 try simp only [Act.put, pu1, pu2, pu3, pu4, pu5, pu6]
 refine Ke.y 1 rfl (fun _ _ _ h => h) ?_
 try simp only [Act.put, pu1, pu2, pu3, pu4, pu5, pu6]
 refine Ke.y 4 rfl (fun _ _ _ h => h) ?_
 try simp only [Act.put, pu1, pu2, pu3, pu4, pu5, pu6]
 refine Ke.y 5 rfl (fun _ _ _ h => h) ?_
 try simp only [Act.put, pu1, pu2, pu3, pu4, pu5, pu6]
 refine Ke.y 7 rfl (fun _ _ _ h => h) ?_
 try simp only [Act.put, pu1, pu2, pu3, pu4, pu5, pu6]
 refine Ke.y 8 rfl (fun _ _ _ h => h) ?_
 try simp only [Act.put, pu1, pu2, pu3, pu4, pu5, pu6]
 refine wpAnyH_ready (rs := [2, 3]) (by kernel_rfl) (by simp) ?_
 refine AllReadyH.cons rfl (fun K hK => ?_) (AllReadyH.cons rfl (fun K hK => ?_) AllReadyH.nil)
 ·
  go_simp
  refine (q W1.drew _ (Sl.later (w := W1) (HS.out.later B1.out) (Below.drew (Below.refl _ _)))).mono ?_
  rintro e W2 ⟨v_s, rfl, o_s2, b2⟩
  have b2 : Below W1.heap.size W1 W2 := (Below.drew (Below.refl _ _)).trans b2
  refine hK.out _ _ ⟨(keepR (W := W1) hHeld.1 b2), (keepR (W := W1) hHeld.2.1 b2), (keepR (W := W1) hHeld.2.2.1 b2), (keepR (W := W1) hHeld.2.2.2.1 b2), (keepR (W := W1) hHeld.2.2.2.2 b2)⟩ (fun hHeld => ?_)
  clear hK K
  try simp only [Act.put, pu1, pu2, pu3, pu4, pu5, pu6]
  have o_s2 : Own W2 W1.heap.size W2.heap.size 9 _ _ := o_s2
  obtain ⟨ao_s, L_s, cap_s, rfl, hL_s, hM_s⟩ := o_s2.form
  have o_s2 : Hid (Own W2 W1.heap.size W2.heap.size 9 (.slice ao_s L_s cap_s) (ss l)) := o_s2
  clear hL_s hM_s
  have z2 := b2.size
  have B2 := Ke.b B1 b2
  have r_a2 := Ke.r r_a1 b2
  have r_res2 := Ke.r r_res1 b2
  clear r_a1 c_a1 r_res1
  refine Ke.z 3 rfl (fun K hK => ?_)
  go_simp
  refine hK.out _ _ ⟨(keepR (W := W2) hHeld.1 ((Below.refl _ _).alloc (Nat.le_refl _) _)), (keepR (W := W2) hHeld.2.1 ((Below.refl _ _).alloc (Nat.le_refl _) _)), (keepR (W := W2) hHeld.2.2.1 ((Below.refl _ _).alloc (Nat.le_refl _) _)), (keepR (W := W2) hHeld.2.2.2.1 ((Below.refl _ _).alloc (Nat.le_refl _) _)), (keepR (W := W2) hHeld.2.2.2.2 ((Below.refl _ _).alloc (Nat.le_refl _) _))⟩ (fun hHeld => ?_)
  clear hK K
  try simp only [Act.put, pu1, pu2, pu3, pu4, pu5, pu6]
  obtain ⟨W3, HW3, b3, o_e3⟩ : ∃ X, Hid ((W2.alloc (.cells #[] 5)) = X) ∧ Below W2.heap.size W2 X ∧ Hid (Own X W2.heap.size X.heap.size 5 (.slice (some ⟨W2.heap.size, 0, none⟩) 0 0) (bs [])) := ⟨_, rfl, ((Below.refl _ _).alloc (Nat.le_refl _) _), Puts.Own.empty W2 W2.heap.size (Nat.le_refl _)⟩
  have HHW3 := HW3.out
  rw [HHW3] at hHeld ⊢
  clear HHW3
  have z3 := b3.size
  have B3 := Ke.b B2 b3
  have r_a3 := Ke.r r_a2 b3
  have r_res3 := Ke.r r_res2 b3
  have o_s3 := Ke.o o_s2 b3
  clear r_a2 r_res2 o_s2
  refine Ke.z 6 rfl (fun K hK => ?_)
  have c6_4 : (bs []).length + (bs b).length ≤ maxLen := by rw [bs_len, bs_len]; unfold maxLen; (try simp only [List.length_nil]); omega
  have c7_4 : ((bs []).length + (bs b).length) * 1 ≤ 140737488355328 := by rw [bs_len, bs_len]; (try simp only [List.length_nil]); omega
  refine step_appG (by rfl) (.tmp 6) (.tmp 8) 27 (by rfl) 5 i5 (.int .u8 0) 1 Tryz.underlying27 hi5 hz5a hz5b hz5c rfl (W2.heap.size) _ (bs []) (by rfl) (Own.mono o_e3.out (Nat.le_refl _) (by omega)) _ (by rfl) (bs b) ((HSB.out.later B3.out)) (bs_one b) c6_4 c7_4 (by omega) ?_
  intro v_p W4 o_p4 g4
  refine hK.out _ _ ⟨(cellGro hHeld.1 g4 (Own.neRow o_e3.out r_a3.out (by decide))), (cellGro hHeld.2.1 g4 (Own.neRow o_e3.out r_a3.out (by decide))), (cellGro hHeld.2.2.1 g4 (Own.neRow o_e3.out r_a3.out (by decide))), (cellGro hHeld.2.2.2.1 g4 (Own.neRow o_e3.out r_a3.out (by decide))), (cellGro hHeld.2.2.2.2 g4 (Own.neRow o_e3.out r_a3.out (by decide)))⟩ (fun hHeld => ?_)
  clear hK K
  try simp only [Act.put, pu1, pu2, pu3, pu4, pu5, pu6]
  have o_p4 : Own W4 (W2.heap.size) W4.heap.size 5 v_p (bs b) := o_p4
  have o_p4h : Hid (Own W4 (W2.heap.size) W4.heap.size 5 v_p (bs b)) := o_p4
  clear o_p4
  have o_p4 := o_p4h
  clear o_p4h
  obtain ⟨ao_p, L_p, cap_p, rfl, _, _⟩ := Mem.Own.form o_p4.out
  have z4 := g4.size
  have B4 : Hid (Below w.heap.size w W4) := belowGro B3.out g4 B3.out.size (Own.low o_e3.out (by have := B3.out.size; omega))
  have r_res4 := Ke.n r_res3 o_e3 g4
  have o_s4 : Hid (Own W4 (W1.heap.size) (W2.heap.size) 9 (.slice ao_s L_s cap_s) (ss l)) := Own.gro o_s3.out g4 (Own.neOwn o_e3.out o_s3.out (by decide))
  clear r_a3 r_res3 o_s3 o_e3
  clear g4 c6_4 c7_4
  refine Ke.y 9 rfl (fun _ _ _ h => h) ?_
  try simp only [Act.put, pu1, pu2, pu3, pu4, pu5, pu6]
  refine Ke.z 10 rfl (fun K hK => ?_)
  rw [if_pos (by rfl)]
  refine wp_store_row 42 _ _ rfl (w.heap.size + 1) (sc (.slice ao_s L_s cap_s) h (.slice ao_p L_p cap_p) s) rfl rfl 42 _ r_res4.out (sizeS _ _ _ _) rfl (oneS _ _ rfl rfl) ?_
  refine hK.out _ _ ⟨(cell_row (by show w.heap.size ≠ w.heap.size + 1; omega) hHeld.1), (cell_row (by show w.heap.size ≠ w.heap.size + 1; omega) hHeld.2.1), (cell_row (by show w.heap.size ≠ w.heap.size + 1; omega) hHeld.2.2.1), (cell_row (by show w.heap.size ≠ w.heap.size + 1; omega) hHeld.2.2.2.1), (cell_row (by show w.heap.size ≠ w.heap.size + 1; omega) hHeld.2.2.2.2)⟩ (fun hHeld => ?_)
  clear hK K
  refine wpAnyH_done (by kernel_rfl) ?_ _
  clear hHeld
  go_wp2
  refine bodyPost_ret (v := .agg (sc (.slice ao_s L_s cap_s) h (.slice ao_p L_p cap_p) s)) (results_cell_row rfl _ _ (w.heap.size + 1) 42 _ (0, 0) _ rfl (setRow_heap _ _ _ _ _ (0, 0) r_res4.out) Tryz.underlying42 rfl (sizeS _ _ _ _)) rfl ⟨.slice ao_s L_s cap_s, .slice ao_p L_p cap_p, rfl, (Own.setRow o_s4.out _ (by omega)).mono (by omega) (by rw [size_setRow]; omega), (Own.setRow o_p4.out _ (by omega)).mono (by omega) (by rw [size_setRow]; omega), below_setRow B4.out (by omega) _⟩
 ·
  go_simp
  refine hK.out _ _ ⟨(keepR (W := W1.drew) hHeld.1 ((Below.refl _ _).alloc (Nat.le_refl _) _)), (keepR (W := W1.drew) hHeld.2.1 ((Below.refl _ _).alloc (Nat.le_refl _) _)), (keepR (W := W1.drew) hHeld.2.2.1 ((Below.refl _ _).alloc (Nat.le_refl _) _)), (keepR (W := W1.drew) hHeld.2.2.2.1 ((Below.refl _ _).alloc (Nat.le_refl _) _)), (keepR (W := W1.drew) hHeld.2.2.2.2 ((Below.refl _ _).alloc (Nat.le_refl _) _))⟩ (fun hHeld => ?_)
  clear hK K
  try simp only [Act.put, pu1, pu2, pu3, pu4, pu5, pu6]
  obtain ⟨W2, HW2, b2, o_e2⟩ : ∃ X, Hid ((W1.alloc (.cells #[] 5)).drew = X) ∧ Below W1.heap.size W1 X ∧ Hid (Own X W1.heap.size X.heap.size 5 (.slice (some ⟨W1.heap.size, 0, none⟩) 0 0) (bs [])) := ⟨_, rfl, (Below.drew ((Below.refl _ _).alloc (Nat.le_refl _) _)), Puts.Own.empty W1 W1.heap.size (Nat.le_refl _)⟩
  have HHW2 := HW2.out
  rw [HHW2] at hHeld ⊢
  clear HHW2
  have z2 := b2.size
  have B2 := Ke.b B1 b2
  have r_a2 := Ke.r r_a1 b2
  have r_res2 := Ke.r r_res1 b2
  clear r_a1 c_a1 r_res1
  refine Ke.z 2 rfl (fun K hK => ?_)
  go_simp
  refine (q W2 _ (HS.out.later B2.out)).mono ?_
  rintro e W3 ⟨v_s, rfl, o_s3, b3⟩
  refine hK.out _ _ ⟨(keepR (W := W2) hHeld.1 b3), (keepR (W := W2) hHeld.2.1 b3), (keepR (W := W2) hHeld.2.2.1 b3), (keepR (W := W2) hHeld.2.2.2.1 b3), (keepR (W := W2) hHeld.2.2.2.2 b3)⟩ (fun hHeld => ?_)
  clear hK K
  try simp only [Act.put, pu1, pu2, pu3, pu4, pu5, pu6]
  obtain ⟨ao_s, L_s, cap_s, rfl, hL_s, hM_s⟩ := o_s3.form
  have o_s3 : Hid (Own W3 W2.heap.size W3.heap.size 9 (.slice ao_s L_s cap_s) (ss l)) := o_s3
  clear hL_s hM_s
  have z3 := b3.size
  have B3 := Ke.b B2 b3
  have r_a3 := Ke.r r_a2 b3
  have r_res3 := Ke.r r_res2 b3
  have o_e3 := Ke.o o_e2 b3
  clear r_a2 r_res2 o_e2
  refine Ke.z 6 rfl (fun K hK => ?_)
  have c6_4 : (bs []).length + (bs b).length ≤ maxLen := by rw [bs_len, bs_len]; unfold maxLen; (try simp only [List.length_nil]); omega
  have c7_4 : ((bs []).length + (bs b).length) * 1 ≤ 140737488355328 := by rw [bs_len, bs_len]; (try simp only [List.length_nil]); omega
  refine step_appG (by rfl) (.tmp 6) (.tmp 8) 27 (by rfl) 5 i5 (.int .u8 0) 1 Tryz.underlying27 hi5 hz5a hz5b hz5c rfl (W1.heap.size) _ (bs []) (by rfl) (Own.mono o_e3.out (Nat.le_refl _) (by omega)) _ (by rfl) (bs b) ((HSB.out.later B3.out)) (bs_one b) c6_4 c7_4 (by omega) ?_
  intro v_p W4 o_p4 g4
  refine hK.out _ _ ⟨(cellGro hHeld.1 g4 (Own.neRow o_e3.out r_a3.out (by decide))), (cellGro hHeld.2.1 g4 (Own.neRow o_e3.out r_a3.out (by decide))), (cellGro hHeld.2.2.1 g4 (Own.neRow o_e3.out r_a3.out (by decide))), (cellGro hHeld.2.2.2.1 g4 (Own.neRow o_e3.out r_a3.out (by decide))), (cellGro hHeld.2.2.2.2 g4 (Own.neRow o_e3.out r_a3.out (by decide)))⟩ (fun hHeld => ?_)
  clear hK K
  try simp only [Act.put, pu1, pu2, pu3, pu4, pu5, pu6]
  have o_p4 : Own W4 (W1.heap.size) W4.heap.size 5 v_p (bs b) := o_p4
  have o_p4h : Hid (Own W4 (W1.heap.size) W4.heap.size 5 v_p (bs b)) := o_p4
  clear o_p4
  have o_p4 := o_p4h
  clear o_p4h
  obtain ⟨ao_p, L_p, cap_p, rfl, _, _⟩ := Mem.Own.form o_p4.out
  have z4 := g4.size
  have B4 : Hid (Below w.heap.size w W4) := belowGro B3.out g4 B3.out.size (Own.low o_e3.out (by have := B3.out.size; omega))
  have r_res4 := Ke.n r_res3 o_e3 g4
  have o_s4 : Hid (Own W4 (W2.heap.size) (W3.heap.size) 9 (.slice ao_s L_s cap_s) (ss l)) := Own.gro o_s3.out g4 (Own.neOwn o_e3.out o_s3.out (by decide))
  clear r_a3 r_res3 o_e3 o_s3
  clear g4 c6_4 c7_4
  refine Ke.y 9 rfl (fun _ _ _ h => h) ?_
  try simp only [Act.put, pu1, pu2, pu3, pu4, pu5, pu6]
  refine Ke.z 10 rfl (fun K hK => ?_)
  rw [if_pos (by rfl)]
  refine wp_store_row 42 _ _ rfl (w.heap.size + 1) (sc (.slice ao_s L_s cap_s) h (.slice ao_p L_p cap_p) s) rfl rfl 42 _ r_res4.out (sizeS _ _ _ _) rfl (oneS _ _ rfl rfl) ?_
  refine hK.out _ _ ⟨(cell_row (by show w.heap.size ≠ w.heap.size + 1; omega) hHeld.1), (cell_row (by show w.heap.size ≠ w.heap.size + 1; omega) hHeld.2.1), (cell_row (by show w.heap.size ≠ w.heap.size + 1; omega) hHeld.2.2.1), (cell_row (by show w.heap.size ≠ w.heap.size + 1; omega) hHeld.2.2.2.1), (cell_row (by show w.heap.size ≠ w.heap.size + 1; omega) hHeld.2.2.2.2)⟩ (fun hHeld => ?_)
  clear hK K
  refine wpAnyH_done (by kernel_rfl) ?_ _
  clear hHeld
  go_wp2
  refine bodyPost_ret (v := .agg (sc (.slice ao_s L_s cap_s) h (.slice ao_p L_p cap_p) s)) (results_cell_row rfl _ _ (w.heap.size + 1) 42 _ (0, 0) _ rfl (setRow_heap _ _ _ _ _ (0, 0) r_res4.out) Tryz.underlying42 rfl (sizeS _ _ _ _)) rfl ⟨.slice ao_s L_s cap_s, .slice ao_p L_p cap_p, rfl, (Own.setRow o_s4.out _ (by omega)).mono (by omega) (by rw [size_setRow]; omega), (Own.setRow o_p4.out _ (by omega)).mono (by omega) (by rw [size_setRow]; omega), below_setRow B4.out (by omega) _⟩
end Go.Proofs.YtchonoonclllbabGreatDoor.Sr
namespace Go.Proofs.YtchonoonclllbabGreatDoor.Mg
open Go.RowKit Go.Proofs.YtchonoonclllbabGreatDoor.Mem Go.Proofs.YtchonoonclllbabGreatDoor.Laws Go.Proofs.YtchonoonclllbabGreatDoor.Bytes Go.Proofs.YtchonoonclllbabGreatDoor.Sha Go.Proofs.YtchonoonclllbabGreatDoor.Tr Go.Proofs.YtchonoonclllbabGreatDoor.He
set_option linter.unusedVariables false
set_option linter.unusedSimpArgs false
def mc (m : Ms) (v : Value) : Array Value := #[.int .i64 m.k, .int .i64 m.f, .int .i64 m.t, .int .i64 m.h.n, .string m.h.r, .int .i64 m.n, v]
theorem sizeM (m : Ms) (v : Value) : (Tryz.prog.info? 52).map (·.size) = some (mc m v).size := by
 show _ = some 7
 kernel_rfl
theorem oneM {v : Value} (m : Ms) (hv : v.oneCell' = true) : (mc m v).all (·.oneCell') = true := by
 simp [mc, Value.oneCell']
 exact hv
theorem not_face {m : Ms} (h : ¬ ((0 ≤ m.f ∧ m.f ≤ 20) ∧ (0 ≤ m.t ∧ m.t ≤ 20) ∧ ¬ m.f = m.t ∧ okH m.h = true ∧ (0 ≤ m.n ∧ m.n ≤ 200))) : msgOk m = false := by
 rw [← Bool.not_eq_true]
 intro q
 obtain ⟨a, b, c, d, e, _⟩ := msg_parts q
 exact h ⟨a, b, c, d, e⟩
theorem is_face {m : Ms} (h : (0 ≤ m.f ∧ m.f ≤ 20) ∧ (0 ≤ m.t ∧ m.t ≤ 20) ∧ ¬ m.f = m.t ∧ okH m.h = true ∧ (0 ≤ m.n ∧ m.n ≤ 200)) : msgOk m = kindOk m := by
 obtain ⟨a, b, c, d, e⟩ := h
 unfold msgOk face
 simp [a, b, c, d, e]
set_option maxRecDepth 1000000 in
set_option maxHeartbeats 4000000 in
theorem msgok_spec (w : World) (v : Value) (m : Ms) (hs : Sl w v (ss m.x)) (hl : m.x.length ≤ 1000000000000) :
  Calls Tryz.prog 39 #[.agg #[.int .i64 m.k, .int .i64 m.f, .int .i64 m.t, .int .i64 m.h.n, .string m.h.r, .int .i64 m.n, v]] w fun e w' => e = .returned (.bool (msgOk m)) ∧ Below w.heap.size w w' := by
 obtain ⟨R, hR⟩ : ∃ R, msgOk m = R := ⟨_, rfl⟩
 have HR : Hid (msgOk m = R) := hR
 rw [hR]
 clear hR
 obtain ⟨k, f, t, h, n, x⟩ := m
 simp only at *
 have HS : Hid (Sl w v (ss x)) := hs
 obtain ⟨ao0, cap0, rfl, hc0⟩ := hs.form
 simp only [ss_len] at *
 clear hs
 have B0 : Hid (Below w.heap.size w w) := Below.refl _ _
 obtain ⟨W1, HW1, b1, y1, hS1, r_a1⟩ := Ke.l1 w #[.int .i64 k, .int .i64 f, .int .i64 t, .int .i64 h.n, .string h.r, .int .i64 n, .slice ao0 x.length cap0] 52
 have z1 := b1.size
 have B1 := Ke.b B0 b1
 have c_a1 := Ke.c r_a1
 go_enter Tryz.func39, Tryz.ntmps39
 by_cases hin_f : 0 ≤ f ∧ f ≤ 20
 ·
  have q2 := in6t W1 hin_f
  have HI_f : Hid (0 ≤ f ∧ f ≤ 20) := hin_f
  have hlo_f := hin_f.1
  have hhi_f := hin_f.2
  clear hin_f
  go_wp2_with fail
  rw [HW1.out]
  refine q2.mono ?_
  rintro e W_ ⟨rfl, hW_⟩
  subst hW_
  clear q2
  by_cases hin_t : 0 ≤ t ∧ t ≤ 20
  ·
   have q2 := in6t W1 hin_t
   have HI_t : Hid (0 ≤ t ∧ t ≤ 20) := hin_t
   have hlo_t := hin_t.1
   have hhi_t := hin_t.2
   clear hin_t
   go_wp2_with fail
   refine q2.mono ?_
   rintro e W_ ⟨rfl, hW_⟩
   subst hW_
   clear q2
   by_cases hft : f = t
   ·
    subst hft
    have hbb : (f == f) = true := by simp
    have HN : Hid (R = false) := by show _ = _; rw [← HR.out]; exact not_face (fun q => q.2.2.1 rfl)
    go_wp2
    go_ret
    exact ⟨by rw [HN.out]; rfl, B1.out⟩
   ·
    have hbb : (f == t) = false := by rw [beq_eq_false_iff_ne]; exact hft
    obtain ⟨A, hA⟩ : ∃ A, okH h = A := ⟨_, rfl⟩
    have q3 := He.ok_spec W1 h
    rw [hA] at q3
    have HA : Hid (okH h = A) := hA
    clear hA
    go_wp2_with fail
    refine (q3).mono ?_
    rintro e W2 ⟨rfl, b2⟩
    have z2 := b2.size
    have B2 := Ke.b B1 b2
    have r_a2 := Ke.r r_a1 b2
    have c_a2 := Ke.c r_a2
    clear r_a1 c_a1
    clear q3
    cases A
    ·
     have HN : Hid (R = false) := by show _ = _; rw [← HR.out]; exact not_face (fun q => by have h9 := q.2.2.2.1; simp only at h9; rw [HA.out] at h9; cases h9)
     go_wp2
     go_ret
     exact ⟨by rw [HN.out]; rfl, B2.out⟩
    ·
     by_cases hin_n : 0 ≤ n ∧ n ≤ 200
     ·
      have q2 := in6t W2 hin_n
      have HI_n : Hid (0 ≤ n ∧ n ≤ 200) := hin_n
      have hlo_n := hin_n.1
      have hhi_n := hin_n.2
      clear hin_n
      go_wp2_with fail
      refine q2.mono ?_
      rintro e W_ ⟨rfl, hW_⟩
      subst hW_
      clear q2
      have HK : Hid (kindOk ⟨k, f, t, h, n, x⟩ = R) := by show _ = _; rw [← HR.out]; exact (is_face ⟨HI_f.out, HI_t.out, hft, HA.out, HI_n.out⟩).symm
      have hhn := (okH_parts13 HA.out)
      have hn1 := hhn.1
      have hn2 := hhn.2.1
      clear hhn HR
      have HR : Hid (kindOk ⟨k, f, t, h, n, x⟩ = R) := HK
      clear HK
      by_cases k1 : k = 1
      ·
       subst k1
       by_cases n0 : n = 0
       ·
        subst n0
        by_cases l0 : x.length = 0
        ·
         have l1 : (x.length : Int) = 0 := by omega
         have l2 : ((x.length : Int) == 0) = true := by rw [l1]; rfl
         have HN : Hid (R = true) := by show _ = _; rw [← HR.out]; unfold kindOk; simp [l0]
         go_wp2
         go_ret
         exact ⟨by rw [HN.out]; rfl, B2.out⟩
        ·
         have l1 : ¬ (x.length : Int) = 0 := by omega
         have l2 : ((x.length : Int) == 0) = false := by rw [beq_eq_false_iff_ne]; exact l1
         have HN : Hid (R = false) := by show _ = _; rw [← HR.out]; unfold kindOk; simp [l0]
         go_wp2
         go_ret
         exact ⟨by rw [HN.out]; rfl, B2.out⟩
       ·
        have n1 : (n == 0) = false := by rw [beq_eq_false_iff_ne]; exact n0
        have HN : Hid (R = false) := by show _ = _; rw [← HR.out]; unfold kindOk; simp [n0]
        go_wp2
        go_ret
        exact ⟨by rw [HN.out]; rfl, B2.out⟩
      ·
       have k1b : (k == 1) = false := by rw [beq_eq_false_iff_ne]; exact k1
       by_cases k2 : k = 2
       ·
        subst k2
        by_cases n0 : n < h.n
        ·
         have n1 : decide (n < h.n) = true := decide_eq_true n0
         by_cases l0 : x.length = 0
         ·
          have l1 : (x.length : Int) = 0 := by omega
          have l2 : ((x.length : Int) == 0) = true := by rw [l1]; rfl
          have HN : Hid (R = true) := by show _ = _; rw [← HR.out]; unfold kindOk; simp [l0, n0]
          go_wp2
          go_ret
          exact ⟨by rw [HN.out]; rfl, B2.out⟩
         ·
          have l1 : ¬ (x.length : Int) = 0 := by omega
          have l2 : ((x.length : Int) == 0) = false := by rw [beq_eq_false_iff_ne]; exact l1
          have HN : Hid (R = false) := by show _ = _; rw [← HR.out]; unfold kindOk; simp [l0]
          go_wp2
          go_ret
          exact ⟨by rw [HN.out]; rfl, B2.out⟩
        ·
         have n1 : decide (n < h.n) = false := decide_eq_false n0
         have HN : Hid (R = false) := by show _ = _; rw [← HR.out]; unfold kindOk; simp [n0]
         go_wp2
         go_ret
         exact ⟨by rw [HN.out]; rfl, B2.out⟩
       ·
        have k2b : (k == 2) = false := by rw [beq_eq_false_iff_ne]; exact k2
        by_cases k3 : k = 3
        ·
         subst k3
         by_cases n0 : n < h.n
         ·
          have n1 : decide (n < h.n) = true := decide_eq_true n0
          have wr : IntKind.i64.wrap (h.n - n) = h.n - n := by rw [IntKind.wrap_i64]; omega
          by_cases l0 : (x.length : Int) = h.n - n
          ·
           have l2 : ((x.length : Int) == h.n - n) = true := by rw [l0]; simp
           have HL0 : Hid ((x.length : Int) = h.n - n) := l0
           clear l0
           have HN : Hid (R = true) := by show _ = _; rw [← HR.out]; unfold kindOk; simp [HL0.out, n0]
           go_wp2
           go_ret
           exact ⟨by rw [HN.out]; rfl, B2.out⟩
          ·
           have l2 : ((x.length : Int) == h.n - n) = false := by rw [beq_eq_false_iff_ne]; exact l0
           have HN : Hid (R = false) := by show _ = _; rw [← HR.out]; unfold kindOk; simp [l0]
           go_wp2
           go_ret
           exact ⟨by rw [HN.out]; rfl, B2.out⟩
         ·
          have n1 : decide (n < h.n) = false := decide_eq_false n0
          have HN : Hid (R = false) := by show _ = _; rw [← HR.out]; unfold kindOk; simp [n0]
          go_wp2
          go_ret
          exact ⟨by rw [HN.out]; rfl, B2.out⟩
        ·
         have k3b : (k == 3) = false := by rw [beq_eq_false_iff_ne]; exact k3
         have HN : Hid (R = false) := by show _ = _; rw [← HR.out]; unfold kindOk; simp [k1, k2, k3]
         go_wp2
         go_ret
         exact ⟨by rw [HN.out]; rfl, B2.out⟩
     ·
      have q2 := in6f W2 hin_n
      have HI_n : Hid (¬ (0 ≤ n ∧ n ≤ 200)) := hin_n
      clear hin_n
      go_wp2_with fail
      refine q2.mono ?_
      rintro e W_ ⟨rfl, hW_⟩
      subst hW_
      clear q2
      have HN : Hid (R = false) := by show _ = _; rw [← HR.out]; exact not_face (fun q => HI_n.out q.2.2.2.2)
      go_wp2
      go_ret
      exact ⟨by rw [HN.out]; rfl, B2.out⟩
  ·
   have q2 := in6f W1 hin_t
   have HI_t : Hid (¬ (0 ≤ t ∧ t ≤ 20)) := hin_t
   clear hin_t
   go_wp2_with fail
   refine q2.mono ?_
   rintro e W_ ⟨rfl, hW_⟩
   subst hW_
   clear q2
   have HN : Hid (R = false) := by show _ = _; rw [← HR.out]; exact not_face (fun q => HI_t.out q.2.1)
   go_wp2
   go_ret
   exact ⟨by rw [HN.out]; rfl, B1.out⟩
 ·
  have q2 := in6f W1 hin_f
  have HI_f : Hid (¬ (0 ≤ f ∧ f ≤ 20)) := hin_f
  clear hin_f
  go_wp2_with fail
  rw [HW1.out]
  refine q2.mono ?_
  rintro e W_ ⟨rfl, hW_⟩
  subst hW_
  clear q2
  have HN : Hid (R = false) := by show _ = _; rw [← HR.out]; exact not_face (fun q => HI_f.out q.1)
  go_wp2
  go_ret
  exact ⟨by rw [HN.out]; rfl, B1.out⟩
end Go.Proofs.YtchonoonclllbabGreatDoor.Mg
namespace Go.Proofs.YtchonoonclllbabGreatDoor.Mi
open Go.RowKit Go.Proofs.YtchonoonclllbabGreatDoor.Mem Go.Proofs.YtchonoonclllbabGreatDoor.Laws Go.Proofs.YtchonoonclllbabGreatDoor.Bytes Go.Proofs.YtchonoonclllbabGreatDoor.Sha Go.Proofs.YtchonoonclllbabGreatDoor.Tr Go.Proofs.YtchonoonclllbabGreatDoor.He Go.Proofs.YtchonoonclllbabGreatDoor.Lg Go.Proofs.YtchonoonclllbabGreatDoor.Sr Go.Proofs.YtchonoonclllbabGreatDoor.Mg
set_option linter.unusedVariables false
set_option linter.unusedSimpArgs false
def mq (id : Int) (v : Value) (h : Hd) (b : Value) (s : Int) (g : Hd) : Array Value := #[.int .i64 id, v, .int .i64 h.n, .string h.r, b, .int .i64 s, .int .i64 g.n, .string g.r]
theorem sizeQ (id : Int) (v : Value) (h : Hd) (b : Value) (s : Int) (g : Hd) : (Tryz.prog.info? 44).map (·.size) = some (mq id v h b s g).size := by
 show _ = some 8
 kernel_rfl
theorem oneQ {v b : Value} (id : Int) (h : Hd) (s : Int) (g : Hd) (hv : v.oneCell' = true) (hb : b.oneCell' = true) : (mq id v h b s g).all (·.oneCell') = true := by
 simp [mq, Value.oneCell']
 exact ⟨hv, hb⟩
end Go.Proofs.YtchonoonclllbabGreatDoor.Mi
namespace Go.Proofs.YtchonoonclllbabGreatDoor.Strs
open Go.RowKit Go.Proofs.YtchonoonclllbabGreatDoor.Mem Go.Proofs.YtchonoonclllbabGreatDoor.Laws Go.Proofs.YtchonoonclllbabGreatDoor.Bytes
set_option linter.unusedVariables false
set_option linter.unusedSimpArgs false
set_option maxRecDepth 1000000 in
set_option maxHeartbeats 400000 in
theorem sz_any2 (w : World) (v : Value) (l : List ByteArray) (left : Nat) (h : Sl w v (ss l)) (hs : ∀ s ∈ l, s.size ≤ 9223372036854775807) (hx : l.length ≤ 9223372036854775807) (hlf : left ≤ 1048576) :
  Calls Tryz.prog 36 #[v, .int .i64 (left : Int)] w fun e w' => (∃ r : Int, e = .returned (.int .i64 r) ∧ (r < 0 ∨ (l.length + Puts.tot l ≤ left ∧ 0 ≤ r ∧ r ≤ left))) ∧ w = w' := by
 obtain ⟨ao, cap, rfl, hc1, _, hr1⟩ := h
 rw [ss_len] at hr1 hc1
 rw [ss_len]
 by_cases hbig : left < l.length
 ·
  go_enter Tryz.func36, Tryz.ntmps36
  go_wp2
  go_ret
  exact ⟨⟨_, rfl, .inl (by decide)⟩, rfl⟩
 ·
  go_enter Tryz.func36, Tryz.ntmps36
  go_wp2
  go_loop [1, 5] (fun lf i => ∃ (k m : Nat), k ≤ l.length ∧ i = .int .i64 k ∧ lf = .int .i64 (m : Int) ∧ m + l.length + Puts.tot (l.take k) = left) (fun _ i => l.length - (intOf i).toNat)
  case atStart => exact ⟨0, left - l.length, Nat.zero_le _, rfl, congrArg (Value.int .i64) (by omega), by simp [Puts.tot]; omega⟩
  case round =>
   obtain ⟨k, m, hk, rfl, rfl, hm⟩ := hrel
   have HM : Hid (m + l.length + Puts.tot (l.take k) = left) := hm
   have hmb : m ≤ 1048576 := by omega
   clear hm
   by_cases hlt : k < l.length
   ·
    obtain ⟨b, off, s, rfl, hx0, hcell⟩ := Sl.strAt hr1 rfl hlt
    have hsz := hs s (List.mem_of_getElem? hx0)
    have HT : Hid (Puts.tot (l.take (k + 1)) = Puts.tot (l.take k) + s.size) := tot_take l k s hx0
    clear hx0 hr1 hs
    by_cases hneg : m < s.size
    ·
     go_wp2
     go_ret
     exact ⟨⟨_, rfl, .inl (by decide)⟩, rfl⟩
    ·
     go_wp2
     go_round
     case rel => exact ⟨k + 1, m - s.size, by omega, by go_num, congrArg (Value.int .i64) (by omega), by have := HM.out; have := HT.out; omega⟩
     case measure => simp [intOf]; omega
   ·
    go_wp2
    go_ret
    refine ⟨⟨_, rfl, .inr ⟨?_, ?_, ?_⟩⟩, rfl⟩
    ·
     have h1 := HM.out
     rw [List.take_of_length_le (by omega)] at h1
     omega
    ·
     show (0 : Int) ≤ (m : Int)
     omega
    ·
     have h1 := HM.out
     show (m : Int) ≤ (left : Int)
     omega
end Go.Proofs.YtchonoonclllbabGreatDoor.Strs
namespace Go.Proofs.YtchonoonclllbabGreatDoor.Lg
open Go.RowKit Go.Proofs.YtchonoonclllbabGreatDoor.Mem Go.Proofs.YtchonoonclllbabGreatDoor.Laws Go.Proofs.YtchonoonclllbabGreatDoor.Bytes Go.Proofs.YtchonoonclllbabGreatDoor.Sha Go.Proofs.YtchonoonclllbabGreatDoor.Tr Go.Proofs.YtchonoonclllbabGreatDoor.He
set_option linter.unusedVariables false
set_option linter.unusedSimpArgs false
theorem alloc3_new (w : World) (A B C : Obj) : (((w.alloc A).alloc B).alloc C).heap[w.heap.size + 1 + 1]? = some C := by
 have h := heap_alloc_new ((w.alloc A).alloc B) C
 simpa using h
set_option maxRecDepth 1000000 in
set_option maxHeartbeats 2000000 in
theorem to_log (w : World) (v : Value) (l : List ByteArray) (h : Hd) (hs : Sl w v (ss l)) (hl : l.length ≤ 1000000000000) :
  Calls Tryz.prog 75 #[.agg #[v, .int .i64 h.n, .string h.r]] w fun e w' => ∃ v', e = .returned (.agg #[v', .int .i64 h.n, .string h.r]) ∧ Own w' w.heap.size w'.heap.size 9 v' (ss l) ∧ Below w.heap.size w w' := by
 obtain ⟨W, hW⟩ : ∃ W, W = ((w.alloc (.cells #[v, .int .i64 h.n, .string h.r] 26)).alloc (.cells #[.slice none 0 0, .int .i64 0, .string ⟨#[]⟩] 40)).alloc (.cells #[.slice none 0 0, .int .i64 0, .string ⟨#[]⟩] 40) := ⟨_, rfl⟩
 have z0 : W.heap.size = w.heap.size + 3 := by rw [hW]; simp
 have r0 : W.heap[w.heap.size]? = some (.cells #[v, .int .i64 h.n, .string h.r] 26 (0, 0)) := by rw [hW, heap_alloc_old _ _ (by simp; omega)]; exact heap_alloc2_old w _ _
 have r1 : W.heap[w.heap.size + 1]? = some (.cells (lc (.slice none 0 0) hd0) 40 (0, 0)) := by rw [hW, heap_alloc_old _ _ (by simp)]; exact heap_alloc2_new w _ _
 have r2 : W.heap[w.heap.size + 1 + 1]? = some (.cells (lc (.slice none 0 0) hd0) 40 (0, 0)) := by rw [hW]; exact alloc3_new w _ _ _
 have hB : Below w.heap.size w W := by rw [hW]; exact (((Below.refl _ _).alloc (Nat.le_refl _) _).alloc (by simp) _).alloc (by simp; omega) _
 have q := Strs.to_s W v l (hs.later hB) hl
 have HR0 : Hid _ := r0
 have HR1 : Hid _ := r1
 have HR2 : Hid _ := r2
 have HB : Hid _ := hB
 have HZ : Hid _ := z0
 have HW : Hid _ := hW
 obtain ⟨ao, cap, rfl, hcap⟩ := hs.form
 rw [ss_len] at *
 clear hW r0 r1 r2 hB z0 hs
 go_enter Tryz.func75, Tryz.ntmps75
 go_wp2_with fail
 rw [← HW.out]
 refine q.mono ?_
 rintro e w4 ⟨v', rfl, o4, b4⟩
 obtain ⟨ao4, L4, cap4, rfl, _, _⟩ := o4.form
 have R0 := rowKeep HR0.out b4
 have R1 := rowKeep HR1.out b4
 have R2 := rowKeep HR2.out b4
 have B4 : Below w.heap.size w w4 := HB.out.trans (b4.mono HB.out.size)
 have k0 : w4.cell? ⟨w.heap.size + 1 + 1, 0, none⟩ = some (.slice none 0 0) := row_at R2 0
 have f0 : w4.frozen? ⟨w.heap.size + 1 + 1, 0, none⟩ = false := row_free R2 0
 obtain ⟨X, hX, S0, S1, S2, SB, SO, SZ⟩ : ∃ X, Hid (w4.setCell ⟨w.heap.size + 1 + 1, 0, none⟩ (.slice ao4 L4 cap4) = X) ∧ X.heap[w.heap.size]? = some (.cells #[.slice ao l.length cap, .int .i64 h.n, .string h.r] 26 (0, 0)) ∧ Hid (X.heap[w.heap.size + 1]? = some (.cells (lc (.slice none 0 0) hd0) 40 (0, 0))) ∧ Hid (X.heap[w.heap.size + 1 + 1]? = some (.cells (lc (.slice ao4 L4 cap4) hd0) 40 (0, 0))) ∧ Hid (Below w.heap.size w X) ∧ Hid (Own X W.heap.size X.heap.size 9 (.slice ao4 L4 cap4) (ss l)) ∧ W.heap.size ≤ X.heap.size := by
  have hz := HZ.out
  refine ⟨_, rfl, ?_, ?_, ?_, ?_, ?_, ?_⟩
  ·
   exact (Below.heap_setCell _ _ _ _ (by show w.heap.size ≠ w.heap.size + 1 + 1; omega)).trans R0
  ·
   exact (Below.heap_setCell _ _ _ _ (by show w.heap.size + 1 ≠ w.heap.size + 1 + 1; omega)).trans R1
  ·
   exact row_set R2 0 _
  ·
   exact B4.setCell (p := ⟨w.heap.size + 1 + 1, 0, none⟩) (by show _ ≤ w.heap.size + 1 + 1; omega) _
  ·
   exact (Own.setCell o4 _ (by omega)).mono (Nat.le_refl _) (by simp [World.setCell])
  ·
   simp [World.setCell]; exact b4.size
 have c1 : X.cell? ⟨w.heap.size, 1, none⟩ = some (.int .i64 h.n) := row_at S0 1
 have c2 : X.cell? ⟨w.heap.size, 2, none⟩ = some (.string h.r) := row_at S0 2
 have qh := to_head X h
 rw [← hX.out] at qh c1 c2
 clear R0 R1 R2 o4 B4 q HB HR1 HR2 HR0 HW b4 S0
 go_wp2_with fail
 refine qh.mono ?_
 rw [hX.out]
 rintro e w6 ⟨rfl, b6⟩
 have T1 := rowKeep S1.out b6
 have T2 := rowKeep S2.out b6
 have TB : Below w.heap.size w w6 := SB.out.trans (b6.mono SB.out.size)
 have TO : Hid (Own w6 W.heap.size X.heap.size 9 (.slice ao4 L4 cap4) (ss l)) := Own.later SO.out b6 (Nat.le_refl _)
 have b6s := b6.size
 have th : w6.there (w.heap.size + 1 + 1) 1 2 := there_row T2 (by show _ ≤ 3; omega)
 obtain ⟨Y, HY, Y1, Y2, YB, YO, YZ⟩ : ∃ Y, Hid (w6.setCells (w.heap.size + 1 + 1) 1 (hc h).toList = Y) ∧ Hid (Y.heap[w.heap.size + 1]? = some (.cells (lc (.slice none 0 0) hd0) 40 (0, 0))) ∧ Hid (Y.heap[w.heap.size + 1 + 1]? = some (.cells (lc (.slice ao4 L4 cap4) h) 40 (0, 0))) ∧ Hid (Below w.heap.size w Y) ∧ Hid (Own Y W.heap.size X.heap.size 9 (.slice ao4 L4 cap4) (ss l)) ∧ X.heap.size ≤ Y.heap.size := by
  have hz := HZ.out
  refine ⟨_, rfl, ?_, ?_, ?_, ?_, ?_⟩
  ·
   exact (heap_setCells_other (w.heap.size + 1 + 1) (w.heap.size + 1) (by omega) _ _ w6).trans T1
  ·
   exact heap_setCells _ _ _ w6 (lc (.slice ao4 L4 cap4) hd0).toList _ T2
  ·
   exact below_setCells (by omega) _ _ w6 TB
  ·
   exact Own.keep TO.out (fun k hk1 hk2 => heap_setCells_other (w.heap.size + 1 + 1) k (by omega) _ _ w6)
  ·
   rw [size_setCells]; exact b6s
 clear T1 T2 TB TO qh b6 S1 S2 SB SO hX c1 c2
 go_wp2_with (first | (refine wpList_store_mid rfl 38 _ _ rfl (w.heap.size + 1 + 1) 1 (hc h) rfl rfl th (sizeH _) (oneH _) ?_; rw [HY.out]) | (refine wpList_load_row rfl 40 _ rfl (w.heap.size + 1 + 1) rfl 40 (lc (.slice ao4 L4 cap4) h) (0, 0) _ Y2.out Tryz.underlying40 rfl (sizeL _ _) ?_) | (refine wpList_store_row rfl 40 _ _ rfl (w.heap.size + 1) (lc (.slice ao4 L4 cap4) h) rfl rfl 40 _ Y1.out (sizeL _ _) rfl (oneL _ rfl) ?_))
 refine bodyPost_ret (v := .agg (lc (.slice ao4 L4 cap4) h)) (results_cell_row rfl _ _ (w.heap.size + 1) 40 _ (0, 0) _ rfl (setRow_heap _ _ _ _ _ (0, 0) Y1.out) Tryz.underlying40 rfl (sizeL _ _)) rfl ⟨_, rfl, ?_, below_setRow YB.out (by omega) _⟩
 have hz := HZ.out
 exact (Own.setRow YO.out _ (by omega)).mono (by omega) (by simp; omega)
set_option maxRecDepth 1000000 in
set_option maxHeartbeats 2000000 in
theorem sz_log (w : World) (v : Value) (l : List ByteArray) (h : Hd) (left : Nat) (hs : Sl w v (ss l)) (hz : ∀ s ∈ l, s.size ≤ 9223372036854775807) (hx : l.length ≤ 9223372036854775807) (hr : h.r.size ≤ 9223372036854775807) (hlf : left ≤ 1048576) :
  Calls Tryz.prog 65 #[.agg #[v, .int .i64 h.n, .string h.r], .int .i64 (left : Int)] w fun e w' => (∃ r : Int, e = .returned (.int .i64 r) ∧ (r < 0 ∨ (l.length + Puts.tot l ≤ left ∧ h.r.size ≤ left ∧ 0 ≤ r ∧ r ≤ left))) ∧ Below w.heap.size w w' := by
 have hB : Below w.heap.size w (w.alloc (.cells #[v, .int .i64 h.n, .string h.r] 26)) := (Below.refl _ _).alloc (Nat.le_refl _) _
 have q := Strs.sz_any2 (w.alloc (.cells #[v, .int .i64 h.n, .string h.r] 26)) v l left (hs.later hB) hz hx hlf
 have HB : Hid _ := hB
 obtain ⟨ao, cap, rfl, hcap⟩ := hs.form
 rw [ss_len] at *
 clear hB hs
 go_enter Tryz.func65, Tryz.ntmps65
 go_wp2_with fail
 refine q.mono ?_
 rintro e WX ⟨⟨r, rfl, hr0⟩, hWX⟩
 subst hWX
 clear q
 by_cases h0 : r < 0
 ·
  go_wp2
  go_ret
  exact ⟨⟨-1, rfl, .inl (by omega)⟩, HB.out⟩
 ·
  rcases hr0 with hr0 | ⟨hr1, hr2, hr3⟩
  ·
   exact absurd hr0 h0
  have qh : ∀ W, _ := fun W => sz_head W h r hr hr2 (by omega)
  by_cases hb : r - (h.r.size : Int) < 0
  ·
   simp only [if_pos hb] at qh
   go_wp2_with fail
   refine (qh _).mono ?_
   rintro e w2 ⟨rfl, b2⟩
   have B2 : Below w.heap.size w w2 := HB.out.trans (b2.mono HB.out.size)
   clear qh
   go_wp2
   go_ret
   exact ⟨⟨-1, rfl, .inl (by omega)⟩, B2⟩
  ·
   simp only [if_neg hb] at qh
   have hle : h.r.size ≤ left := by omega
   obtain ⟨m, hm⟩ : ∃ m, r - (h.r.size : Int) = m := ⟨_, rfl⟩
   have hm2 : 0 ≤ m ∧ m ≤ (left : Int) := by omega
   rw [hm] at hb
   simp only [hm] at qh
   clear hm
   go_wp2_with fail
   refine (qh _).mono ?_
   rintro e w2 ⟨rfl, b2⟩
   have B2 : Below w.heap.size w w2 := HB.out.trans (b2.mono HB.out.size)
   clear qh
   go_wp2
   go_ret
   exact ⟨⟨m, rfl, .inr ⟨hr1, hle, hm2.1, hm2.2⟩⟩, B2⟩
set_option maxRecDepth 1000000 in
set_option maxHeartbeats 2000000 in
theorem eq_log (w : World) (h : Hd) (v1 v2 : Value) (l : List ByteArray) (h1 : Sl w v1 (ss l)) (h2 : Sl w v2 (ss l)) (hl : l.length ≤ 1000000000000) :
  Calls Tryz.prog 87 #[.agg #[v1, .int .i64 h.n, .string h.r], .agg #[v2, .int .i64 h.n, .string h.r]] w fun e w' => e = .returned (.bool true) ∧ Below w.heap.size w w' := by
 obtain ⟨W, hW, r0, r1, HB⟩ : ∃ W, Hid ((w.alloc (.cells #[v1, .int .i64 h.n, .string h.r] 40)).alloc (.cells #[v2, .int .i64 h.n, .string h.r] 40) = W) ∧ W.heap[w.heap.size]? = some (.cells #[v1, .int .i64 h.n, .string h.r] 40 (0, 0)) ∧ W.heap[w.heap.size + 1]? = some (.cells #[v2, .int .i64 h.n, .string h.r] 40 (0, 0)) ∧ Hid (Below w.heap.size w W) := ⟨_, rfl, heap_alloc2_old w _ _, heap_alloc2_new w _ _, ((Below.refl _ _).alloc (Nat.le_refl _) _).alloc (by simp) _⟩
 have q := Strs.eqs_true W v1 v2 l (h1.later HB.out) (h2.later HB.out) hl
 obtain ⟨ao, cap, rfl, hcap⟩ := h1.form
 obtain ⟨ao2, cap2, rfl, hcap2⟩ := h2.form
 rw [ss_len] at *
 have qh : ∀ W', _ := fun W' => eq_head W' h
 have q' := q
 rw [← hW.out] at q'
 clear h1 h2 q
 go_enter Tryz.func87, Tryz.ntmps87
 go_wp2_with fail
 refine q'.mono ?_
 rw [hW.out]
 rintro e w1 ⟨rfl, b1, _⟩
 have s0 := rowKeep r0 (b1 _)
 have s1 := rowKeep r1 (b1 _)
 have c1 : w1.cell? ⟨w.heap.size, 1, none⟩ = some (.int .i64 h.n) := row_at s0 1
 have c2 : w1.cell? ⟨w.heap.size, 2, none⟩ = some (.string h.r) := row_at s0 2
 have d1 : w1.cell? ⟨w.heap.size + 1, 1, none⟩ = some (.int .i64 h.n) := row_at s1 1
 have d2 : w1.cell? ⟨w.heap.size + 1, 2, none⟩ = some (.string h.r) := row_at s1 2
 have HB1 : Hid (Below w.heap.size w w1) := HB.out.trans ((b1 _).mono HB.out.size)
 clear q' b1 HB s0 s1 r0 r1
 go_wp2_with fail
 refine (qh _).mono ?_
 rintro e w2 ⟨rfl, b2⟩
 have HB2 : Hid (Below w.heap.size w w2) := HB1.out.trans (b2.mono HB1.out.size)
 clear qh b2 HB1
 go_wp2
 go_ret
 exact ⟨rfl, HB2.out⟩
set_option maxRecDepth 1000000 in
set_option maxHeartbeats 2000000 in
theorem mark_log (w : World) (n : Hd) (v : Value) (lo hi : Nat) (hs : List ByteArray) (k0 : Nat) (h : Own w lo hi 9 v (ss hs)) (hhi : hi ≤ w.heap.size) (hx : hs.length ≤ 1000000000) (hk1 : 1 ≤ k0) (hk0 : k0 ≤ 1000000000) :
  Calls Tryz.prog 89 #[.agg #[v, .int .i64 n.n, .string n.r], .int .i64 (k0 : Int)] w fun e w' => e = .returned (.int .i64 ((k0 + hs.length : Nat) : Int)) ∧ Own w' lo hi 9 v (ss (Strs.mts k0 hs.length)) ∧ Apart lo hi w w' := by
 have hb : Below w.heap.size w (w.alloc (.cells #[v, .int .i64 n.n, .string n.r] 40)) := (Below.refl _ _).alloc (Nat.le_refl _) _
 have q := Strs.marks_any (w.alloc (.cells #[v, .int .i64 n.n, .string n.r] 40)) v lo hi hs k0 (h.later hb hhi) (Nat.le_trans hhi hb.size) (by omega) hk1 (by omega)
 have HA : Hid (Apart lo hi w (w.alloc (.cells #[v, .int .i64 n.n, .string n.r] 40))) := (Apart.refl lo hi w).grow hb
 obtain ⟨ao, L, cap, rfl, _, _⟩ := h.form
 obtain ⟨m, hm⟩ : ∃ m : Int, ((k0 + hs.length : Nat) : Int) = m := ⟨_, rfl⟩
 rw [hm] at q ⊢
 clear h hb hm
 go_enter Tryz.func89, Tryz.ntmps89
 go_wp2_with fail
 refine q.mono ?_
 rintro e w1 ⟨rfl, o1, a1⟩
 have HO : Hid _ := o1
 have HA2 : Hid (Apart lo hi w w1) := HA.out.trans a1
 clear q o1 a1 HA
 go_wp2
 go_ret
 exact ⟨rfl, HO.out, HA2.out⟩
set_option maxRecDepth 1000000 in
set_option maxHeartbeats 2000000 in
theorem held_log (w : World) (n : Hd) (v : Value) (m k0 : Nat) (h : Sl w v (ss (Strs.mts k0 m))) (hx : m ≤ 1000000000) (hk1 : 1 ≤ k0) (hk0 : k0 ≤ 1000000000) :
  Calls Tryz.prog 91 #[.agg #[v, .int .i64 n.n, .string n.r], .int .i64 (k0 : Int)] w fun e w' => e = .returned (.int .i64 ((k0 + m : Nat) : Int)) ∧ Below w.heap.size w w' := by
 have HB : Hid (Below w.heap.size w (w.alloc (.cells #[v, .int .i64 n.n, .string n.r] 40))) := (Below.refl _ _).alloc (Nat.le_refl _) _
 have q := Strs.helds_any (w.alloc (.cells #[v, .int .i64 n.n, .string n.r] 40)) v m k0 (h.later HB.out) (by omega) hk1 (by omega)
 obtain ⟨ao, cap, rfl, _⟩ := h.form
 obtain ⟨r, hr⟩ : ∃ r : Int, ((k0 + m : Nat) : Int) = r := ⟨_, rfl⟩
 have hr0 : ¬ r < 0 := by omega
 rw [hr] at q ⊢
 clear hr
 go_enter Tryz.func91, Tryz.ntmps91
 go_wp2_with fail
 refine q.mono ?_
 rintro e w1 ⟨rfl, b1⟩
 have HB1 : Hid (Below w.heap.size w w1) := HB.out.trans (b1.mono HB.out.size)
 clear q b1 HB
 go_wp2
 go_ret
 exact ⟨rfl, HB1.out⟩
def mh (k : Nat) : Hd := ⟨(k : Int), Strs.mt (k + 1)⟩
def mhs (k n : Nat) : List Hd := (List.range n).map fun i => mh (k + 2 * i)
theorem mhs_len (k n : Nat) : (mhs k n).length = n := by simp [mhs]
theorem mhs_get (k n j : Nat) (h : j < n) : (mhs k n)[j]? = some (mh (k + 2 * j)) := by simp [mhs, h]
theorem own_keepH {n m cap lo g : Nat} {e : TypeId} {w w' : World} {cs : List Value} (h : w.ownsRow lo e n (.slice (some ⟨g, 0, none⟩) m cap) m cs) (hk : w'.heap[g]? = w.heap[g]?) : w'.ownsRow lo e n (.slice (some ⟨g, 0, none⟩) m cap) m cs := by
 refine ⟨h.1, ?_⟩
 rcases h.2 with ⟨h', _⟩ | ⟨g', cap', cur, h', hq, hh, r⟩
 ·
  simp at h'
 ·
  simp only [Value.slice.injEq, Option.some.injEq, Addr.mk.injEq, and_true, true_and] at h'
  obtain ⟨rfl, rfl⟩ := h'
  exact .inr ⟨g, cap, cur, rfl, hq, by rw [hk]; exact hh, r⟩
set_option maxRecDepth 1000000 in
set_option maxHeartbeats 4000000 in
theorem mark_heads (w : World) (v : Value) (lo hi : Nat) (l : List Hd) (k0 : Nat) (h : Oh w lo hi v l) (hhi : hi ≤ w.heap.size) (hx : l.length ≤ 1000000000) (hk1 : 1 ≤ k0) (hk0 : k0 ≤ 1000000000) :
  Calls Tryz.prog 21 #[v, .int .i64 (k0 : Int)] w fun e w' => e = .returned (.int .i64 ((k0 + 2 * l.length : Nat) : Int)) ∧ Oh w' lo hi v (mhs k0 l.length) ∧ Apart lo hi w w' := by
 rcases h.1.2 with ⟨rfl, h0⟩ | ⟨g, cap, cur, rfl, hbg, hg, hnc, hcm, hcs, ht⟩
 ·
  have hcs : l = [] := List.eq_nil_of_length_eq_zero h0
  subst hcs
  go_enter Tryz.func21, Tryz.ntmps21
  go_wp2
  refine wp_loop_rounds 1 ?_; rw [rounds_succ]
  go_wp2
  go_ret
  exact ⟨rfl, h, Apart.refl _ _ _⟩
 ·
  have hgh : g < hi := h.2 g rfl
  have hown1 := h.1
  obtain ⟨n, hn⟩ : ∃ n, n = l.length := ⟨_, rfl⟩
  have hown0 : w.ownsRow lo 38 2 (.slice (some ⟨g, 0, none⟩) n cap) n (hds l) := by rw [hn]; exact hown1
  rw [← hn] at hnc hx ⊢
  clear hg hcs ht h hcm cur hown1
  go_enter Tryz.func21, Tryz.ntmps21
  go_wp2
  go_loopw [1, 5] (fun kk i wr => ∃ (k : Nat) (L : List Value), k ≤ n ∧ i = .int .i64 k ∧ kk = .int .i64 ((k0 + 2 * k : Nat) : Int) ∧ L.take (k * 2) = (hds (mhs k0 n)).take (k * 2) ∧ wr.ownsRow lo 38 2 (.slice (some ⟨g, 0, none⟩) n cap) n L ∧ Apart lo hi w wr) (fun _ i _ => n - (intOf i).toNat)
  case atStart => exact ⟨0, hds l, Nat.zero_le _, rfl, rfl, by simp, hown0, Apart.refl _ _ _⟩
  case round =>
   obtain ⟨k, L, hk, rfl, rfl, hE0, hownr, hap⟩ := hrel
   have HE : Hid (L.take (k * 2) = (hds (mhs k0 n)).take (k * 2)) := hE0
   have HL : Hid (L.length = n * 2) := hownr.1
   clear hE0 hown0 hn
   by_cases hlt : k < n
   ·
    have hglt : g < wr.heap.size := (hownr.lt g rfl).2
    obtain ⟨K, hK⟩ : ∃ K : Nat, K = k0 + 2 * k := ⟨_, rfl⟩
    have HK : Hid (K = k0 + 2 * k) := hK
    have hKb : K ≤ 10000000000 := by omega
    have hK1 : 1 ≤ K := by omega
    rw [← hK]
    clear hK
    have hm4 : ∀ W, _ := fun W => Strs.mark_text W (K + 1) (by omega) (by omega)
    have hc : ∀ j, j < 2 → ∃ u, wr.cell? ⟨g, k * 2 + j, none⟩ = some u := fun j hj => ⟨L[k * 2 + j]'(by have := HL.out; omega), by rw [hownr.cellAt (k * 2 + j) (by omega)]; simp⟩
    obtain ⟨u0, hu0⟩ := hc 0 (by omega)
    obtain ⟨u1, hu1⟩ := hc 1 (by omega)
    rw [Nat.add_zero] at hu0
    have hf0 := hownr.frozenAt (k * 2)
    have hf1 := hownr.frozenAt (k * 2 + 1)
    clear hc
    go_wp2_with fail
    have e1 : (K : Int) + 1 = ((K + 1 : Nat) : Int) := by omega
    rw [e1]
    obtain ⟨W4, hW4⟩ : ∃ W4, W4 = wr.setCell ⟨g, k * 2, none⟩ (.int .i64 (K : Int)) := ⟨_, rfl⟩
    have hown4 : W4.ownsRow lo 38 2 (.slice (some ⟨g, 0, none⟩) n cap) n (L.set (k * 2) (.int .i64 (K : Int))) := by
     rw [hW4]
     exact (hownr.stored _ _).1
    have hap4 : Apart lo hi w W4 := by
     rw [hW4]
     exact hap.setCell (p := ⟨g, k * 2, none⟩) hbg hgh _
    have q4 := hm4 W4
    rw [hW4] at q4
    refine q4.mono ?_
    rw [← hW4]
    rintro e w5 ⟨rfl, hb5⟩
    have hg4 : g < W4.heap.size := (hown4.lt g rfl).2
    have hown5 := own_keepH hown4 (hb5.block g hg4)
    have hap5 := hap4.grow hb5
    obtain ⟨L5, hL5⟩ : ∃ L5, L5 = L.set (k * 2) (.int .i64 (K : Int)) := ⟨_, rfl⟩
    rw [← hL5] at hown5
    have HL5 : Hid (L5.length = n * 2) := hown5.1
    obtain ⟨u5, hu5⟩ : ∃ u, w5.cell? ⟨g, k * 2 + 1, none⟩ = some u := ⟨L5[k * 2 + 1]'(by have := HL5.out; omega), by rw [hown5.cellAt (k * 2 + 1) (by omega)]; simp⟩
    have hf5 := hown5.frozenAt (k * 2 + 1)
    have HS : Hid ((w5.setCell ⟨g, k * 2 + 1, none⟩ (.string (Strs.mt (K + 1)))).ownsRow lo 38 2 (.slice (some ⟨g, 0, none⟩) n cap) n (putL L (k * 2) (mh K).cs)) := by
     have h := (hown5.stored (k * 2 + 1) (.string (Strs.mt (K + 1)))).1
     rw [hL5] at h
     exact h
    have HA : Hid (Apart lo hi w (w5.setCell ⟨g, k * 2 + 1, none⟩ (.string (Strs.mt (K + 1))))) := hap5.setCell (p := ⟨g, k * 2 + 1, none⟩) hbg hgh _
    clear q4 hm4 hownr hown4 hown5 hap hap4 hap5 hu0 hu1 hf0 hf1 hb5 hW4 hL5 HL5 e1
    go_wp2
    go_roundw
    case rel =>
     refine ⟨k + 1, putL L (k * 2) (mh K).cs, by omega, by go_num, ?_, ?_, HS.out, HA.out⟩
     ·
      have := HK.out
      go_num
     ·
      refine putL_take (by rw [HL.out, hds_len, mhs_len]) (by rw [hds_len, mhs_len]; omega) HE.out rfl (fun j hj => ?_)
      have hq := mhs_get k0 n k hlt
      rw [← HK.out] at hq
      obtain ⟨c0, c1⟩ := hds_get (mhs k0 n) k (mh K) hq
      match j, hj with
      | 0, _ => exact c0
      | 1, _ => exact c1
    case measure => simp [intOf]; omega
   ·
    go_wp2
    go_ret
    have h1 := HE.out
    have h2 := HL.out
    have hkn : k = n := by omega
    subst hkn
    rw [List.take_of_length_le (by omega), List.take_of_length_le (by rw [hds_len, mhs_len]; omega)] at h1
    subst h1
    refine ⟨rfl, ⟨?_, fun g' hg' => by simp [Value.ownBlock] at hg'; omega⟩, hap⟩
    have := hownr
    rw [mhs_len]
    exact this
end Go.Proofs.YtchonoonclllbabGreatDoor.Lg
