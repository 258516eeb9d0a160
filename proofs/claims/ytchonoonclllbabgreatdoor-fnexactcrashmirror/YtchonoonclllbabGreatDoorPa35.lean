/- Texts in one: KpK, Mj5. -/
import Derived.Test.YtchonoonclllbabGreatDoorPa6
import Derived.Test.YtchonoonclllbabGreatDoorPa23
import Derived.Test.YtchonoonclllbabGreatDoorPa14
import Derived.Test.YtchonoonclllbabGreatDoorPa29
import Derived.Test.YtchonoonclllbabGreatDoorPa34
import Derived.Lib.MinMax
namespace Go.Proofs.YtchonoonclllbabGreatDoor.Sr
open Go.RowKit Go.Proofs.YtchonoonclllbabGreatDoor.Mem Go.Proofs.YtchonoonclllbabGreatDoor.Laws Go.Proofs.YtchonoonclllbabGreatDoor.Bytes Go.Proofs.YtchonoonclllbabGreatDoor.Sha Go.Proofs.YtchonoonclllbabGreatDoor.Tr Go.Proofs.YtchonoonclllbabGreatDoor.He Go.Proofs.YtchonoonclllbabGreatDoor.Lg
set_option linter.unusedVariables false
set_option linter.unusedSimpArgs false
theorem slAllocK (w : World) (cs : List Value) (t : TypeId) : Sl (w.alloc (.cells cs.toArray t)) (.slice (some ⟨w.heap.size, 0, none⟩) cs.length cs.length) cs := by
 refine ⟨_, _, rfl, Nat.le_refl _, fun h => by simp at h, fun _ => ⟨w.heap.size, 0, rfl, fun j hj => ?_⟩⟩
 rw [Nat.zero_add, cell_of_row _ w.heap.size j cs.toArray t (0, 0) (heap_alloc_new w _)]
 simp
theorem part1K {W : World} {a : Value} {p : List Int} (h : Sl W a (bs p)) : ∀ (i : Nat) (v : Value) (q : List Int), [a][i]? = some v → [p][i]? = some q → Sl W v (bs q) := by
 intro i v q h1 h2
 match i with
 | 0 => simp at h1 h2; rw [← h1, ← h2]; exact h
 | i + 1 => simp at h1
set_option maxRecDepth 1000000 in
set_option maxHeartbeats 4000000 in
theorem fall_impl (w : World) (v vb : Value) (l : List ByteArray) (h : Hd) (b : List Int) (s keep : Int) (hs : Sl w v (ss l)) (hb : Sl w vb (bs b)) (hbl : b.length ≤ 1000000000) (hs1 : -9223372036854775808 ≤ s) (hs2 : s ≤ 9223372036854775807) (hk1 : -9223372036854775808 ≤ keep) (hk2 : keep ≤ 9223372036854775807) :
  Calls Tryz.prog 64 #[.agg #[v, .int .i64 h.n, .string h.r, vb, .int .i64 s], .int .i64 keep] w fun e w' => ∃ v', e = .returned v' ∧ Own w' w.heap.size w'.heap.size 5 v' (bs (b.take (fallN ⟨l, h, b, s⟩ keep))) ∧ Below w.heap.size w w' := by
 have HSB : Hid (Sl w vb (bs b)) := hb
 obtain ⟨ao0, cap0, rfl, hc0⟩ := hs.form
 obtain ⟨ao1, cap1, rfl, hc1⟩ := hb.form
 simp only [ss_len, bs_len] at *
 clear hs hb
 obtain ⟨K, hK⟩ : ∃ K, fallN ⟨l, h, b, s⟩ keep = K := ⟨_, rfl⟩
 rw [hK]
 unfold fallN at hK
 simp only at hK
 have B0 : Hid (Below w.heap.size w w) := Below.refl _ _
 obtain ⟨W1, HW1, b1, y1, hS1, r_a1⟩ := Ke.l1 w #[.slice ao0 l.length cap0, .int .i64 h.n, .string h.r, .slice ao1 b.length cap1, .int .i64 s] 42
 have z1 := b1.size
 have B1 := Ke.b B0 b1
 have c_a1 := Ke.c r_a1
 have hKK : K = ((min (max s 0) (b.length : Int)) + min (max keep 0) ((b.length : Int) - (min (max s 0) (b.length : Int)))).toNat := by omega
 have HKK : Hid (K = ((min (max s 0) (b.length : Int)) + min (max keep 0) ((b.length : Int) - (min (max s 0) (b.length : Int)))).toNat) := hKK
 have hKb : ((min (max s 0) (b.length : Int)) + min (max keep 0) ((b.length : Int) - (min (max s 0) (b.length : Int)))).toNat ≤ b.length := by omega
 have w1 : IntKind.i64.wrap ((b.length : Int) - (min (max s 0) (b.length : Int))) = (b.length : Int) - (min (max s 0) (b.length : Int)) := by rw [IntKind.wrap_i64]; omega
 have w2 : IntKind.i64.wrap ((min (max s 0) (b.length : Int)) + min (max keep 0) ((b.length : Int) - (min (max s 0) (b.length : Int)))) = ((min (max s 0) (b.length : Int)) + min (max keep 0) ((b.length : Int) - (min (max s 0) (b.length : Int)))) := by rw [IntKind.wrap_i64]; omega
 have h1 : ((min (max s 0) (b.length : Int)) + min (max keep 0) ((b.length : Int) - (min (max s 0) (b.length : Int)))) ≤ (cap1 : Int) := by omega
 have h2 : 0 ≤ ((min (max s 0) (b.length : Int)) + min (max keep 0) ((b.length : Int) - (min (max s 0) (b.length : Int)))) := by omega
 have h3 : ¬ ((min (max s 0) (b.length : Int)) + min (max keep 0) ((b.length : Int) - (min (max s 0) (b.length : Int)))) < 0 := by omega
 have h4 : ¬ (cap1 : Int) < ((min (max s 0) (b.length : Int)) + min (max keep 0) ((b.length : Int) - (min (max s 0) (b.length : Int)))) := by omega
 clear hKK hK
 have HSK : Hid (∀ W, Below w.heap.size w W → Sl W (.slice ao1 ((min (max s 0) (b.length : Int)) + min (max keep 0) ((b.length : Int) - (min (max s 0) (b.length : Int)))).toNat cap1) (bs (b.take ((min (max s 0) (b.length : Int)) + min (max keep 0) ((b.length : Int) - (min (max s 0) (b.length : Int)))).toNat))) := by
  intro W hW
  have h9 := Sl.front (HSB.out.later hW) ((min (max s 0) (b.length : Int)) + min (max keep 0) ((b.length : Int) - (min (max s 0) (b.length : Int)))).toNat (by rw [bs_len]; omega)
  have e9 : bs (b.take ((min (max s 0) (b.length : Int)) + min (max keep 0) ((b.length : Int) - (min (max s 0) (b.length : Int)))).toNat) = (bs b).take ((min (max s 0) (b.length : Int)) + min (max keep 0) ((b.length : Int) - (min (max s 0) (b.length : Int)))).toNat := by { unfold bs; rw [List.map_take] }
  rw [e9]
  exact h9
 go_enter Tryz.func64, Tryz.ntmps64
 obtain ⟨W2, HW2, b2, ff2⟩ : ∃ X, Hid ((W1.alloc (.cells #[.slice ao1 ((min (max s 0) (b.length : Int)) + min (max keep 0) ((b.length : Int) - (min (max s 0) (b.length : Int)))).toNat cap1] 27)) = X) ∧ Below W1.heap.size W1 X ∧ Hid (Sl X (.slice (some ⟨W1.heap.size, 0, none⟩) 1 1) [.slice ao1 ((min (max s 0) (b.length : Int)) + min (max keep 0) ((b.length : Int) - (min (max s 0) (b.length : Int)))).toNat cap1]) := ⟨_, rfl, (Below.refl _ _).alloc (Nat.le_refl _) _, slAllocK W1 [.slice ao1 ((min (max s 0) (b.length : Int)) + min (max keep 0) ((b.length : Int) - (min (max s 0) (b.length : Int)))).toNat cap1] 27⟩
 have ff2 : Hid (Sl W2 (.slice (some ⟨w.heap.size + 1, 0, none⟩) 1 1) [.slice ao1 ((min (max s 0) (b.length : Int)) + min (max keep 0) ((b.length : Int) - (min (max s 0) (b.length : Int)))).toNat cap1]) := by show Sl _ _ _; have h9 := ff2.out; rw [hS1.out] at h9; exact h9
 have z2 := b2.size
 have B2 := Ke.b B1 b2
 clear r_a1 c_a1
 have qj := joined_impl W2 _ _ [b.take ((min (max s 0) (b.length : Int)) + min (max keep 0) ((b.length : Int) - (min (max s 0) (b.length : Int)))).toNat] ff2.out rfl (part1K (HSK.out _ B2.out)) (by simp) (by simp <;> omega)
 have e9 : [b.take ((min (max s 0) (b.length : Int)) + min (max keep 0) ((b.length : Int) - (min (max s 0) (b.length : Int)))).toNat].flatten = b.take ((min (max s 0) (b.length : Int)) + min (max keep 0) ((b.length : Int) - (min (max s 0) (b.length : Int)))).toNat := by simp
 rw [e9] at qj
 clear e9
 go_wp2_with fail
 rw [HW1.out, HW2.out]
 refine (qj).mono ?_
 rintro e W3 ⟨v_z, rfl, o_z3, b3⟩
 obtain ⟨ao_z, L_z, cap_z, rfl, hL_z, hM_z⟩ := o_z3.form
 have o_z3 : Hid (Own W3 W2.heap.size W3.heap.size 5 (.slice ao_z L_z cap_z) (bs (b.take ((min (max s 0) (b.length : Int)) + min (max keep 0) ((b.length : Int) - (min (max s 0) (b.length : Int)))).toNat))) := o_z3
 clear hL_z hM_z
 have z3 := b3.size
 have B3 := Ke.b B2 b3
 go_wp2
 go_ret
 refine ⟨_, rfl, ?_, B3.out⟩
 rw [HKK.out]
 exact Own.mono o_z3.out (by omega) (Nat.le_refl _)
end Go.Proofs.YtchonoonclllbabGreatDoor.Sr
namespace Go.Proofs.YtchonoonclllbabGreatDoor.Mi
open Go.RowKit Go.Proofs.YtchonoonclllbabGreatDoor.Mem Go.Proofs.YtchonoonclllbabGreatDoor.Laws Go.Proofs.YtchonoonclllbabGreatDoor.Bytes Go.Proofs.YtchonoonclllbabGreatDoor.Sha Go.Proofs.YtchonoonclllbabGreatDoor.Tr Go.Proofs.YtchonoonclllbabGreatDoor.He Go.Proofs.YtchonoonclllbabGreatDoor.Lg Go.Proofs.YtchonoonclllbabGreatDoor.Sr Go.Proofs.YtchonoonclllbabGreatDoor.Mg
set_option linter.unusedVariables false
set_option linter.unusedSimpArgs false
set_option maxRecDepth 1000000 in
set_option maxHeartbeats 16000000 in
theorem sync_impl (w : World) (v vb vt : Value) (m : Mr) (t : List Hd) (hG : Glob w) (hN : NoC w) (hh : m.st.h.r.size ≤ 1000000000000) (hgr : m.b.r.size ≤ 1000000000000) (hs : Sl w v (ss m.st.l)) (hb : Sl w vb (bs m.st.b)) (hby : Byt m.st.b) (hst : Sh w vt t) (hl : m.st.l.length ≤ 1000000000) (hbl : m.st.b.length ≤ 1000000000) (htl : t.length ≤ 1000000000) (hz : ∀ s ∈ m.st.l, s.size ≤ 10000000000) :
  Calls Tryz.prog 31 #[.agg #[.int .i64 m.id, v, .int .i64 m.st.h.n, .string m.st.h.r, vb, .int .i64 m.st.s, .int .i64 m.b.n, .string m.b.r], vt] w fun e w' => ∃ v' vb', e = .returned (.agg #[.int .i64 (sync m t).id, v', .int .i64 (sync m t).st.h.n, .string (sync m t).st.h.r, vb', .int .i64 (sync m t).st.s, .int .i64 (sync m t).b.n, .string (sync m t).b.r]) ∧ Own w' w.heap.size w'.heap.size 9 v' (ss (sync m t).st.l) ∧ Own w' w.heap.size w'.heap.size 5 vb' (bs (sync m t).st.b) ∧ Below w.heap.size w w' := by
 obtain ⟨R, hR⟩ : ∃ R, sync m t = R := ⟨_, rfl⟩
 have HR : Hid (sync m t = R) := hR
 rw [hR]
 obtain ⟨id, ⟨l, h, b, s⟩, g⟩ := m
 simp only at *
 have HS : Hid (Sl w v (ss l)) := hs
 have HSB : Hid (Sl w vb (bs b)) := hb
 have HBY : Hid (Byt b) := hby
 have HT : Hid (Sh w vt t) := hst
 have HG : Hid (Glob w) := hG
 have HNC : Hid (NoC w) := hN
 obtain ⟨ao0, cap0, rfl, hc0⟩ := hs.form
 obtain ⟨ao1, cap1, rfl, hc1⟩ := hb.form
 obtain ⟨ao2, cap2, rfl, hc2⟩ := hst.form
 simp only [ss_len, bs_len] at *
 clear hs hb hR hby hst hG hN
 have B0 : Hid (Below w.heap.size w w) := Below.refl _ _
 obtain ⟨W1, HW1, b1, y1, hS1, r_a1, r_res1⟩ := Ke.l2 w #[.int .i64 id, .slice ao0 l.length cap0, .int .i64 h.n, .string h.r, .slice ao1 b.length cap1, .int .i64 s, .int .i64 g.n, .string g.r] 44 #[.int .i64 0, .slice none 0 0, .int .i64 0, .string ⟨#[]⟩, .slice none 0 0, .int .i64 0, .int .i64 0, .string ⟨#[]⟩] 44
 have z1 := b1.size
 have B1 := Ke.b B0 b1
 have c_a1 := Ke.c r_a1
 have c_res1 := Ke.c r_res1
 have q1 : ∀ W v1 v2, Sl W v1 (ss l) → Sl W v2 (bs b) → _ := fun W v1 v2 h1 h2 => mcopy_impl W v1 v2 ⟨id, ⟨l, h, b, s⟩, g⟩ (fun s h => Nat.le_trans (hz s h) (by omega)) hh hgr h1 h2 hl hbl
 simp only at q1
 have q2 : ∀ W v1 v2 v3, Glob W → NoC W → Sl W v1 (ss l) → Sl W v2 (bs b) → Sh W v3 t → _ := fun W v1 v2 v3 hG hN h1 h2 h3 => mirrorok_impl W v1 v2 v3 ⟨id, ⟨l, h, b, s⟩, g⟩ t hG hN hgr h1 h2 HBY.out h3 hl hbl htl hz
 obtain ⟨A, hA⟩ : ∃ A, mirrorOk ⟨id, ⟨l, h, b, s⟩, g⟩ t = A := ⟨_, rfl⟩
 simp only [hA] at q2
 have HA : Hid (mirrorOk ⟨id, ⟨l, h, b, s⟩, g⟩ t = A) := hA
 clear hA
 have q3 : ∀ W v1 v2, Glob W → NoC W → Sl W v1 (ss l) → Sl W v2 (bs b) → _ := fun W v1 v2 hG hN h1 h2 => makesure_impl W v1 v2 ⟨l, h, b, s⟩ hG hN h1 h2 HBY.out hl hbl hz hh
 clear hz
 go_enter Tryz.func31, Tryz.ntmps31
 go_wp2_with fail
 rw [HW1.out]
 refine (q1 W1 _ _ (HS.out.later B1.out) (HSB.out.later B1.out)).mono ?_
 rintro e W2 ⟨v_s, v_p, rfl, o_s2, o_p2, b2⟩
 obtain ⟨lo_s, hi_s, lo_p, hi_p, d1_s, d2_s, d3_s, d4_s, d5_s, d6_s, d7_s, oo_s, oo_p⟩ := Sr.pairN o_s2 o_p2 b2.size
 clear o_s2 o_p2
 obtain ⟨ao_s, L_s, cap_s, rfl, _, _⟩ := oo_s.form
 obtain ⟨ao_p, L_p, cap_p, rfl, _, _⟩ := oo_p.form
 have o_s2 : Hid (Own W2 lo_s hi_s 9 (.slice ao_s L_s cap_s) (ss l)) := oo_s
 have o_p2 : Hid (Own W2 lo_p hi_p 5 (.slice ao_p L_p cap_p) (bs b)) := oo_p
 clear oo_s oo_p
 have z2 := b2.size
 have B2 := Ke.b B1 b2
 have r_a2 := Ke.r r_a1 b2
 have r_res2 := Ke.r r_res1 b2
 have c_a2 := Ke.c r_a2
 have c_res2 := Ke.c r_res2
 clear r_a1 c_a1 r_res1 c_res1
 obtain rfl : L_p = b.length := by obtain ⟨a9, L9, c9, he, h1, h2⟩ := Mem.Own.form o_p2.out; injection he with _ he2 _; rw [bs_len] at h1 h2; omega
 have a_a2 := Ke.a r_a2
 have a_res2 := Ke.a r_res2
 obtain ⟨W3, HW3, b3, y3, hS3, r_out3⟩ := Ke.l1 W2 #[.int .i64 id, .slice ao_s L_s cap_s, .int .i64 h.n, .string h.r, .slice ao_p b.length cap_p, .int .i64 s, .int .i64 g.n, .string g.r] 44
 have z3 := b3.size
 have B3 := Ke.b B2 b3
 have r_a3 := Ke.r r_a2 b3
 have r_res3 := Ke.r r_res2 b3
 have o_s3 := Ke.o o_s2 b3
 have o_p3 := Ke.o o_p2 b3
 have c_a3 := Ke.c r_a3
 have c_res3 := Ke.c r_res3
 have c_out3 := Ke.c r_out3
 clear r_a2 c_a2 r_res2 c_res2 o_s2 o_p2
 go_wp2_with fail
 rw [HW3.out]
 clear a_a2 a_res2
 refine (q2 W3 _ _ _ (HG.out.later B3.out) (NoC.later HNC.out B3.out) (HS.out.later B3.out) (HSB.out.later B3.out) (HT.out.later B3.out)).mono ?_
 rintro e W4 ⟨rfl, b4⟩
 have z4 := b4.size
 have B4 := Ke.b B3 b4
 have r_a4 := Ke.r r_a3 b4
 have r_res4 := Ke.r r_res3 b4
 have r_out4 := Ke.r r_out3 b4
 have o_s4 := Ke.o o_s3 b4
 have o_p4 := Ke.o o_p3 b4
 have c_a4 := Ke.c r_a4
 have c_res4 := Ke.c r_res4
 have c_out4 := Ke.c r_out4
 clear r_a3 c_a3 r_res3 c_res3 r_out3 c_out3 o_s3 o_p3
 cases A
 ·
  have HN : Hid (R = ⟨id, ⟨l, h, b, s⟩, g⟩) := by show _ = _; rw [← HR.out]; unfold sync; rw [HA.out]; rfl
  go_wp2_with (first | (refine wpList_load_row rfl 44 _ rfl (W2.heap.size) rfl 44 (mq id (.slice ao_s L_s cap_s) h (.slice ao_p b.length cap_p) s g) (0, 0) _ r_out4.out Tryz.underlying44 rfl (sizeQ _ _ _ _ _ _) ?_) | (refine wpList_store_row rfl 44 _ _ rfl (w.heap.size + 1) (mq id (.slice ao_s L_s cap_s) h (.slice ao_p b.length cap_p) s g) rfl rfl 44 _ r_res4.out (sizeQ _ _ _ _ _ _) rfl (oneQ _ _ _ _ rfl rfl) ?_))
  refine bodyPost_ret (v := .agg (mq id (.slice ao_s L_s cap_s) h (.slice ao_p b.length cap_p) s g)) (results_cell_row rfl _ _ (w.heap.size + 1) 44 _ (0, 0) _ rfl (setRow_heap _ _ _ _ _ (0, 0) r_res4.out) Tryz.underlying44 rfl (sizeQ _ _ _ _ _ _)) rfl ⟨.slice ao_s L_s cap_s, .slice ao_p b.length cap_p, by rw [HN.out]; rfl, ?_, ?_, below_setRow B4.out (by omega) _⟩
  ·
   rw [HN.out]
   exact (Own.setRow o_s4.out _ (by omega)).mono (by omega) (by rw [size_setRow]; omega)
  ·
   rw [HN.out]
   exact (Own.setRow o_p4.out _ (by omega)).mono (by omega) (by rw [size_setRow]; omega)
 ·
  have HN : Hid (R = ⟨id, ⟨l, h, b, (b.length : Int)⟩, g⟩) := by show _ = _; rw [← HR.out]; unfold sync; rw [HA.out]; rfl
  have hms : makeSure ⟨l, h, b, s⟩ = ⟨l, h, b, (b.length : Int)⟩ := by unfold makeSure; rw [if_pos (ok_split HA.out).2.1]
  simp only [hms] at q3
  clear hms
  go_wp2_with fail
  refine (q3 W4 _ _ (HG.out.later B4.out) (NoC.later HNC.out B4.out) (HS.out.later B4.out) (HSB.out.later B4.out)).mono ?_
  rintro e W5 ⟨v_n, v_np, rfl, o_n5, o_np5, b5⟩
  obtain ⟨lo_n, hi_n, lo_np, hi_np, d1_n, d2_n, d3_n, d4_n, d5_n, d6_n, d7_n, oo_n, oo_np⟩ := Sr.pairN o_n5 o_np5 b5.size
  clear o_n5 o_np5
  obtain ⟨ao_n, L_n, cap_n, rfl, _, _⟩ := oo_n.form
  obtain ⟨ao_np, L_np, cap_np, rfl, _, _⟩ := oo_np.form
  have o_n5 : Hid (Own W5 lo_n hi_n 9 (.slice ao_n L_n cap_n) (ss l)) := oo_n
  have o_np5 : Hid (Own W5 lo_np hi_np 5 (.slice ao_np L_np cap_np) (bs b)) := oo_np
  clear oo_n oo_np
  have z5 := b5.size
  have B5 := Ke.b B4 b5
  have r_a5 := Ke.r r_a4 b5
  have r_res5 := Ke.r r_res4 b5
  have r_out5 := Ke.r r_out4 b5
  have o_s5 := Ke.o o_s4 b5
  have o_p5 := Ke.o o_p4 b5
  have c_a5 := Ke.c r_a5
  have c_res5 := Ke.c r_res5
  have c_out5 := Ke.c r_out5
  clear r_a4 c_a4 r_res4 c_res4 r_out4 c_out4 o_s4 o_p4
  go_wp2_with (refine wpl_partG rfl 42 _ _ rfl (W2.heap.size) 1 (sc (.slice ao_n L_n cap_n) h (.slice ao_np L_np cap_np) (b.length : Int)) rfl rfl [.int .i64 id, .slice ao_s L_s cap_s, .int .i64 h.n, .string h.r, .slice ao_p b.length cap_p, .int .i64 s, .int .i64 g.n, .string g.r] 44 r_out5.out (Nat.le_of_ble_eq_true rfl) (sizeS _ _ _ _) (oneS _ _ rfl rfl) [.int .i64 id, .slice ao_n L_n cap_n, .int .i64 h.n, .string h.r, .slice ao_np L_np cap_np, .int .i64 (b.length : Int), .int .i64 g.n, .string g.r] rfl ?_)
  intro W6 r_out6 g6
  have r_out6 := Ke.h r_out6
  have z6 := g6.size
  have B6 : Hid (Below w.heap.size w W6) := belowGro B5.out g6 B5.out.size (fun k9 h9 => by injection h9 with h9; have := B5.out.size; omega)
  have r_a6 := Ke.s r_a5 g6
  have r_res6 := Ke.s r_res5 g6
  have o_s6 := Ke.t o_s5 r_out5 g6
  have o_p6 := Ke.t o_p5 r_out5 g6
  have o_n6 := Ke.t o_n5 r_out5 g6
  have o_np6 := Ke.t o_np5 r_out5 g6
  have c_a6 := Ke.c r_a6
  have c_res6 := Ke.c r_res6
  have c_out6 := Ke.c r_out6
  clear r_a5 c_a5 r_res5 c_res5 o_s5 o_p5 o_n5 o_np5
  clear r_out5 c_out5
  clear g6
  go_wp2_with (first | (refine wpList_load_row rfl 44 _ rfl (W2.heap.size) rfl 44 (mq id (.slice ao_n L_n cap_n) h (.slice ao_np L_np cap_np) (b.length : Int) g) (0, 0) _ r_out6.out Tryz.underlying44 rfl (sizeQ _ _ _ _ _ _) ?_) | (refine wpList_store_row rfl 44 _ _ rfl (w.heap.size + 1) (mq id (.slice ao_n L_n cap_n) h (.slice ao_np L_np cap_np) (b.length : Int) g) rfl rfl 44 _ r_res6.out (sizeQ _ _ _ _ _ _) rfl (oneQ _ _ _ _ rfl rfl) ?_))
  refine bodyPost_ret (v := .agg (mq id (.slice ao_n L_n cap_n) h (.slice ao_np L_np cap_np) (b.length : Int) g)) (results_cell_row rfl _ _ (w.heap.size + 1) 44 _ (0, 0) _ rfl (setRow_heap _ _ _ _ _ (0, 0) r_res6.out) Tryz.underlying44 rfl (sizeQ _ _ _ _ _ _)) rfl ⟨.slice ao_n L_n cap_n, .slice ao_np L_np cap_np, by rw [HN.out]; rfl, ?_, ?_, below_setRow B6.out (by omega) _⟩
  ·
   rw [HN.out]
   exact (Own.setRow o_n6.out _ (by omega)).mono (by omega) (by rw [size_setRow]; omega)
  ·
   rw [HN.out]
   exact (Own.setRow o_np6.out _ (by omega)).mono (by omega) (by rw [size_setRow]; omega)
set_option maxRecDepth 1000000 in
set_option maxHeartbeats 16000000 in
theorem crash_impl (w : World) (v vb vt : Value) (m : Mr) (t : List Hd) (keep : Int) (hG : Glob w) (hN : NoC w) (hh : m.st.h.r.size ≤ 1000000000000) (hgr : m.b.r.size ≤ 1000000000000)  {a0 a1 a2 a3 : Addr} (hF : Is.Four w a0 a1 a2 a3) (hs1 : -9223372036854775808 ≤ m.st.s) (hs2 : m.st.s ≤ 9223372036854775807) (hk1 : -9223372036854775808 ≤ keep) (hk2 : keep ≤ 9223372036854775807) (hs : Sl w v (ss m.st.l)) (hb : Sl w vb (bs m.st.b)) (hby : Byt m.st.b) (hst : Sh w vt t) (hl : m.st.l.length ≤ 1000000000) (hbl : m.st.b.length ≤ 1000000000) (htl : t.length ≤ 1000000000) (hz : ∀ s ∈ m.st.l, s.size ≤ 10000000000) :
  Calls Tryz.prog 33 #[.agg #[.int .i64 m.id, v, .int .i64 m.st.h.n, .string m.st.h.r, vb, .int .i64 m.st.s, .int .i64 m.b.n, .string m.b.r], vt, .int .i64 keep] w fun e w' => ∃ v' vb', e = .returned (.tuple #[.agg #[.int .i64 (crash m t keep).1.id, v', .int .i64 (crash m t keep).1.st.h.n, .string (crash m t keep).1.st.h.r, vb', .int .i64 (crash m t keep).1.st.s, .int .i64 (crash m t keep).1.b.n, .string (crash m t keep).1.b.r], .int .i64 (crash m t keep).2]) ∧ Own w' w.heap.size w'.heap.size 9 v' (ss (crash m t keep).1.st.l) ∧ Own w' w.heap.size w'.heap.size 5 vb' (bs (crash m t keep).1.st.b) ∧ Below w.heap.size w w' := by
 have HF : Hid (Is.Four w a0 a1 a2 a3) := hF
 clear hF
 obtain ⟨R, hR⟩ : ∃ R, crash m t keep = R := ⟨_, rfl⟩
 have HR : Hid (crash m t keep = R) := hR
 rw [hR]
 obtain ⟨id, ⟨l, h, b, s⟩, g⟩ := m
 simp only at *
 have HS : Hid (Sl w v (ss l)) := hs
 have HSB : Hid (Sl w vb (bs b)) := hb
 have HBY : Hid (Byt b) := hby
 have HT : Hid (Sh w vt t) := hst
 have HG : Hid (Glob w) := hG
 have HNC : Hid (NoC w) := hN
 obtain ⟨ao0, cap0, rfl, hc0⟩ := hs.form
 obtain ⟨ao1, cap1, rfl, hc1⟩ := hb.form
 obtain ⟨ao2, cap2, rfl, hc2⟩ := hst.form
 simp only [ss_len, bs_len] at *
 clear hs hb hR hby hst hG hN
 have B0 : Hid (Below w.heap.size w w) := Below.refl _ _
 obtain ⟨W1, HW1, b1, y1, hS1, r_a1, r_res1⟩ := Ke.l2 w #[.int .i64 id, .slice ao0 l.length cap0, .int .i64 h.n, .string h.r, .slice ao1 b.length cap1, .int .i64 s, .int .i64 g.n, .string g.r] 44 #[.int .i64 0, .slice none 0 0, .int .i64 0, .string ⟨#[]⟩, .slice none 0 0, .int .i64 0, .int .i64 0, .string ⟨#[]⟩] 44
 have z1 := b1.size
 have B1 := Ke.b B0 b1
 have c_a1 := Ke.c r_a1
 have c_res1 := Ke.c r_res1
 have q1 : ∀ W v1 v2, Sl W v1 (ss l) → Sl W v2 (bs b) → _ := fun W v1 v2 h1 h2 => mcopy_impl W v1 v2 ⟨id, ⟨l, h, b, s⟩, g⟩ (fun s h => Nat.le_trans (hz s h) (by omega)) hh hgr h1 h2 hl hbl
 simp only at q1
 have q2 : ∀ W v1 v2 v3, Glob W → NoC W → Sl W v1 (ss l) → Sl W v2 (bs b) → Sh W v3 t → _ := fun W v1 v2 v3 hG hN h1 h2 h3 => mirrorok_impl W v1 v2 v3 ⟨id, ⟨l, h, b, s⟩, g⟩ t hG hN hgr h1 h2 HBY.out h3 hl hbl htl hz
 obtain ⟨A, hA⟩ : ∃ A, mirrorOk ⟨id, ⟨l, h, b, s⟩, g⟩ t = A := ⟨_, rfl⟩
 simp only [hA] at q2
 have HA : Hid (mirrorOk ⟨id, ⟨l, h, b, s⟩, g⟩ t = A) := hA
 clear hA
 have q3 : ∀ W v1 v2, Sl W v1 (ss l) → Sl W v2 (bs b) → _ := fun W v1 v2 h1 h2 => fall_impl W v1 v2 l h b s keep h1 h2 hbl hs1 hs2 hk1 hk2
 obtain ⟨xs, hxs⟩ : ∃ xs, b.take (fallN ⟨l, h, b, s⟩ keep) = xs := ⟨_, rfl⟩
 simp only [hxs] at q3
 have hxl : xs.length ≤ 1000000000 := by rw [← hxs, List.length_take]; omega
 have hxb : Byt xs := fun y hy => HBY.out y (List.mem_of_mem_take (by rw [hxs]; exact hy))
 have q4 : ∀ W v1 v2, Glob W → NoC W → Is.Four W a0 a1 a2 a3 → Sh W v1 t → Sl W v2 (bs xs) → _ := fun W v1 v2 hG hN hF h1 h2 => open_impl W v1 v2 t xs _ hG hN hF h1 h2 hxb (by omega) htl rfl
 obtain ⟨L, H, Bb, S, c, hO⟩ : ∃ L H B S c, openS t xs = (⟨L, H, B, S⟩, c) := ⟨_, _, _, _, _, rfl⟩
 simp only [hO] at q4
 have hHr : H.r.size ≤ 1000000000000 := by
  have h9 := (logOk_yes (ok_parts (openS_ok t hxb).1).1).2
  rw [hO] at h9
  simp only at h9
  rw [h9]
  exact Nat.le_trans (headOf_size _) (by omega)
 have q5 : ∀ W, _ := fun W => own_impl W H hHr
 have HO : Hid (crash1 ⟨id, ⟨l, h, b, s⟩, g⟩ t keep = (⟨id, ⟨L, H, Bb, S⟩, H⟩, (c : Int))) := by show _ = _; unfold crash1 fall; simp only; rw [hxs, hO]
 clear hxs hO hxb
 clear hz
 go_enter Tryz.func33, Tryz.ntmps33
 go_wp2_with fail
 rw [HW1.out]
 refine (q2 W1 _ _ _ (HG.out.later B1.out) (NoC.later HNC.out B1.out) (HS.out.later B1.out) (HSB.out.later B1.out) (HT.out.later B1.out)).mono ?_
 rintro e W2 ⟨rfl, b2⟩
 have z2 := b2.size
 have B2 := Ke.b B1 b2
 have r_a2 := Ke.r r_a1 b2
 have r_res2 := Ke.r r_res1 b2
 have c_a2 := Ke.c r_a2
 have c_res2 := Ke.c r_res2
 clear r_a1 c_a1 r_res1 c_res1
 cases A
 ·
  have HN : Hid (R = (⟨id, ⟨l, h, b, s⟩, g⟩, -1)) := by show _ = _; rw [← HR.out]; unfold crash; rw [HA.out]; rfl
  go_wp2_with fail
  refine (q1 W2 _ _ (HS.out.later B2.out) (HSB.out.later B2.out)).mono ?_
  rintro e W3 ⟨v_s, v_p, rfl, o_s3, o_p3, b3⟩
  obtain ⟨lo_s, hi_s, lo_p, hi_p, d1_s, d2_s, d3_s, d4_s, d5_s, d6_s, d7_s, oo_s, oo_p⟩ := Sr.pairN o_s3 o_p3 b3.size
  clear o_s3 o_p3
  obtain ⟨ao_s, L_s, cap_s, rfl, _, _⟩ := oo_s.form
  obtain ⟨ao_p, L_p, cap_p, rfl, _, _⟩ := oo_p.form
  have o_s3 : Hid (Own W3 lo_s hi_s 9 (.slice ao_s L_s cap_s) (ss l)) := oo_s
  have o_p3 : Hid (Own W3 lo_p hi_p 5 (.slice ao_p L_p cap_p) (bs b)) := oo_p
  clear oo_s oo_p
  have z3 := b3.size
  have B3 := Ke.b B2 b3
  have r_a3 := Ke.r r_a2 b3
  have r_res3 := Ke.r r_res2 b3
  have c_a3 := Ke.c r_a3
  have c_res3 := Ke.c r_res3
  clear r_a2 c_a2 r_res2 c_res2
  go_wp2_with (refine wpList_store_row rfl 44 _ _ rfl (w.heap.size + 1) (mq id (.slice ao_s L_s cap_s) h (.slice ao_p L_p cap_p) s g) rfl rfl 44 _ r_res3.out (sizeQ _ _ _ _ _ _) rfl (oneQ _ _ _ _ rfl rfl) ?_)
  refine bodyPost_ret (res_row_tmp rfl _ _ (w.heap.size + 1) 44 (mq id (.slice ao_s L_s cap_s) h (.slice ao_p L_p cap_p) s g) (0, 0) _ rfl (setRow_heap _ _ _ _ _ (0, 0) r_res3.out) Tryz.underlying44 rfl (sizeQ _ _ _ _ _ _)) rfl ⟨.slice ao_s L_s cap_s, .slice ao_p L_p cap_p, by rw [HN.out]; rfl, ?_, ?_, below_setRow B3.out (by omega) _⟩
  ·
   rw [HN.out]
   exact (Own.setRow o_s3.out _ (by omega)).mono (by omega) (by rw [size_setRow]; omega)
  ·
   rw [HN.out]
   exact (Own.setRow o_p3.out _ (by omega)).mono (by omega) (by rw [size_setRow]; omega)
 ·
  have HN : Hid (R = (⟨id, ⟨L, H, Bb, S⟩, H⟩, (c : Int))) := by show _ = _; rw [← HR.out]; unfold crash; rw [HA.out]; exact HO.out
  go_wp2_with fail
  refine (q3 W2 _ _ (HS.out.later B2.out) (HSB.out.later B2.out)).mono ?_
  rintro e W3 ⟨v_f, rfl, o_f3, b3⟩
  obtain ⟨ao_f, L_f, cap_f, rfl, hL_f, hM_f⟩ := o_f3.form
  have o_f3 : Hid (Own W3 W2.heap.size W3.heap.size 5 (.slice ao_f L_f cap_f) (bs xs)) := o_f3
  clear hL_f hM_f
  have z3 := b3.size
  have B3 := Ke.b B2 b3
  have r_a3 := Ke.r r_a2 b3
  have r_res3 := Ke.r r_res2 b3
  have c_a3 := Ke.c r_a3
  have c_res3 := Ke.c r_res3
  clear r_a2 c_a2 r_res2 c_res2
  go_wp2_with fail
  refine (q4 W3 _ _ (HG.out.later B3.out) (NoC.later HNC.out B3.out) (HF.out.later B3.out) (HT.out.later B3.out) o_f3.out.sl).mono ?_
  rintro e W4 ⟨v_n, v_np, rfl, o_n4, o_np4, b4⟩
  obtain ⟨lo_n, hi_n, lo_np, hi_np, d1_n, d2_n, d3_n, d4_n, d5_n, d6_n, d7_n, oo_n, oo_np⟩ := Sr.pairN o_n4 o_np4 b4.size
  clear o_n4 o_np4
  obtain ⟨ao_n, L_n, cap_n, rfl, _, _⟩ := oo_n.form
  obtain ⟨ao_np, L_np, cap_np, rfl, _, _⟩ := oo_np.form
  have o_n4 : Hid (Own W4 lo_n hi_n 9 (.slice ao_n L_n cap_n) (ss L)) := oo_n
  have o_np4 : Hid (Own W4 lo_np hi_np 5 (.slice ao_np L_np cap_np) (bs Bb)) := oo_np
  clear oo_n oo_np
  have z4 := b4.size
  have B4 := Ke.b B3 b4
  have r_a4 := Ke.r r_a3 b4
  have r_res4 := Ke.r r_res3 b4
  have o_f4 := Ke.o o_f3 b4
  have c_a4 := Ke.c r_a4
  have c_res4 := Ke.c r_res4
  clear r_a3 c_a3 r_res3 c_res3 o_f3
  clear o_f4
  have a_a4 := Ke.a r_a4
  have a_res4 := Ke.a r_res4
  obtain ⟨W5, HW5, b5, y5, hS5, r_st5⟩ := Ke.l1 W4 #[.slice ao_n L_n cap_n, .int .i64 H.n, .string H.r, .slice ao_np L_np cap_np, .int .i64 S] 42
  have z5 := b5.size
  have B5 := Ke.b B4 b5
  have r_a5 := Ke.r r_a4 b5
  have r_res5 := Ke.r r_res4 b5
  have o_n5 := Ke.o o_n4 b5
  have o_np5 := Ke.o o_np4 b5
  have c_a5 := Ke.c r_a5
  have c_res5 := Ke.c r_res5
  have c_st5 := Ke.c r_st5
  clear r_a4 c_a4 r_res4 c_res4 o_n4 o_np4
  go_wp2_with fail
  rw [HW5.out]
  clear a_a4 a_res4
  refine wp_region_held_drew (S := fun w' => w'.cell? ⟨w.heap.size, 0, none⟩ = some (.int .i64 id) ∧ w'.cell? ⟨w.heap.size, 1, none⟩ = some (.slice ao0 l.length cap0) ∧ w'.cell? ⟨w.heap.size, 2, none⟩ = some (.int .i64 h.n) ∧ w'.cell? ⟨w.heap.size, 3, none⟩ = some (.string h.r) ∧ w'.cell? ⟨w.heap.size, 4, none⟩ = some (.slice ao1 b.length cap1) ∧ w'.cell? ⟨w.heap.size, 5, none⟩ = some (.int .i64 s) ∧ w'.cell? ⟨w.heap.size, 6, none⟩ = some (.int .i64 g.n) ∧ w'.cell? ⟨w.heap.size, 7, none⟩ = some (.string g.r) ∧ w'.cell? ⟨W4.heap.size, 0, none⟩ = some (.slice ao_n L_n cap_n) ∧ w'.cell? ⟨W4.heap.size, 1, none⟩ = some (.int .i64 H.n) ∧ w'.cell? ⟨W4.heap.size, 2, none⟩ = some (.string H.r) ∧ w'.cell? ⟨W4.heap.size, 3, none⟩ = some (.slice ao_np L_np cap_np) ∧ w'.cell? ⟨W4.heap.size, 4, none⟩ = some (.int .i64 S)) (by kernel_rfl) ⟨(c_a5 0), (c_a5 1), (c_a5 2), (c_a5 3), (c_a5 4), (c_a5 5), (c_a5 6), (c_a5 7), (c_st5 0), (c_st5 1), (c_st5 2), (c_st5 3), (c_st5 4)⟩ (fun hHeld => ?_)
  refine Ke.y 0 rfl (fun _ _ _ h => h) ?_
  try simp only [Act.put, pu1, pu2, pu3, pu4, pu5, pu6]
  refine Ke.y 1 rfl (fun _ _ _ h => h) ?_
  try simp only [Act.put, pu1, pu2, pu3, pu4, pu5, pu6]
  refine Ke.y 2 rfl (fun _ _ _ h => h) ?_
  try simp only [Act.put, pu1, pu2, pu3, pu4, pu5, pu6]
  refine Ke.y 3 rfl (fun _ _ _ h => h) ?_
  try simp only [Act.put, pu1, pu2, pu3, pu4, pu5, pu6]
  refine Ke.y 4 rfl (fun _ _ _ h => h) ?_
  try simp only [Act.put, pu1, pu2, pu3, pu4, pu5, pu6]
  refine Ke.y 5 rfl (fun _ _ _ h => h) ?_
  try simp only [Act.put, pu1, pu2, pu3, pu4, pu5, pu6]
  refine Ke.y 8 rfl (fun _ _ _ h => h) ?_
  try simp only [Act.put, pu1, pu2, pu3, pu4, pu5, pu6]
  refine Ke.z 6 rfl (fun K hK => ?_)
  go_simp
  refine (q5 W5.drew).mono ?_
  rintro e W6 ⟨rfl, b6⟩
  have b6 : Below W5.heap.size W5 W6 := (Below.drew (Below.refl _ _)).trans b6
  refine hK.out _ _ ⟨(keepR (W := W5) hHeld.1 b6), (keepR (W := W5) hHeld.2.1 b6), (keepR (W := W5) hHeld.2.2.1 b6), (keepR (W := W5) hHeld.2.2.2.1 b6), (keepR (W := W5) hHeld.2.2.2.2.1 b6), (keepR (W := W5) hHeld.2.2.2.2.2.1 b6), (keepR (W := W5) hHeld.2.2.2.2.2.2.1 b6), (keepR (W := W5) hHeld.2.2.2.2.2.2.2.1 b6), (keepR (W := W5) hHeld.2.2.2.2.2.2.2.2.1 b6), (keepR (W := W5) hHeld.2.2.2.2.2.2.2.2.2.1 b6), (keepR (W := W5) hHeld.2.2.2.2.2.2.2.2.2.2.1 b6), (keepR (W := W5) hHeld.2.2.2.2.2.2.2.2.2.2.2.1 b6), (keepR (W := W5) hHeld.2.2.2.2.2.2.2.2.2.2.2.2 b6)⟩ (fun hHeld => ?_)
  clear hK K
  try simp only [Act.put, pu1, pu2, pu3, pu4, pu5, pu6]
  have z6 := b6.size
  have B6 := Ke.b B5 b6
  have r_a6 := Ke.r r_a5 b6
  have r_res6 := Ke.r r_res5 b6
  have r_st6 := Ke.r r_st5 b6
  have o_n6 := Ke.o o_n5 b6
  have o_np6 := Ke.o o_np5 b6
  have c_a6 := Ke.c r_a6
  have c_res6 := Ke.c r_res6
  have c_st6 := Ke.c r_st6
  clear r_a5 c_a5 r_res5 c_res5 r_st5 c_st5 o_n5 o_np5
  refine Ke.y 7 rfl (fun _ _ _ h => h) ?_
  try simp only [Act.put, pu1, pu2, pu3, pu4, pu5, pu6]
  refine Ke.z 9 rfl (fun K hK => ?_)
  rw [if_pos (by rfl)]
  refine wp_store_row 44 _ _ rfl (w.heap.size + 1) (mq id (.slice ao_n L_n cap_n) H (.slice ao_np L_np cap_np) S H) rfl rfl 44 _ r_res6.out (sizeQ _ _ _ _ _ _) rfl (oneQ _ _ _ _ rfl rfl) ?_
  refine hK.out _ _ ⟨(cell_row (by show w.heap.size ≠ w.heap.size + 1; omega) hHeld.1), (cell_row (by show w.heap.size ≠ w.heap.size + 1; omega) hHeld.2.1), (cell_row (by show w.heap.size ≠ w.heap.size + 1; omega) hHeld.2.2.1), (cell_row (by show w.heap.size ≠ w.heap.size + 1; omega) hHeld.2.2.2.1), (cell_row (by show w.heap.size ≠ w.heap.size + 1; omega) hHeld.2.2.2.2.1), (cell_row (by show w.heap.size ≠ w.heap.size + 1; omega) hHeld.2.2.2.2.2.1), (cell_row (by show w.heap.size ≠ w.heap.size + 1; omega) hHeld.2.2.2.2.2.2.1), (cell_row (by show w.heap.size ≠ w.heap.size + 1; omega) hHeld.2.2.2.2.2.2.2.1), (cell_row (by show W4.heap.size ≠ w.heap.size + 1; omega) hHeld.2.2.2.2.2.2.2.2.1), (cell_row (by show W4.heap.size ≠ w.heap.size + 1; omega) hHeld.2.2.2.2.2.2.2.2.2.1), (cell_row (by show W4.heap.size ≠ w.heap.size + 1; omega) hHeld.2.2.2.2.2.2.2.2.2.2.1), (cell_row (by show W4.heap.size ≠ w.heap.size + 1; omega) hHeld.2.2.2.2.2.2.2.2.2.2.2.1), (cell_row (by show W4.heap.size ≠ w.heap.size + 1; omega) hHeld.2.2.2.2.2.2.2.2.2.2.2.2)⟩ (fun hHeld => ?_)
  clear hK K
  try simp only [Act.put, pu1, pu2, pu3, pu4, pu5, pu6]
  refine Ke.y 10 rfl (fun _ _ _ h => h) ?_
  try simp only [Act.put, pu1, pu2, pu3, pu4, pu5, pu6]
  refine wpAnyH_done (by kernel_rfl) ?_ _
  clear hHeld
  go_wp2
  refine bodyPost_ret (res_row_tmp rfl _ _ (w.heap.size + 1) 44 (mq id (.slice ao_n L_n cap_n) H (.slice ao_np L_np cap_np) S H) (0, 0) _ rfl (setRow_heap _ _ _ _ _ (0, 0) r_res6.out) Tryz.underlying44 rfl (sizeQ _ _ _ _ _ _)) rfl ⟨.slice ao_n L_n cap_n, .slice ao_np L_np cap_np, by rw [HN.out]; rfl, ?_, ?_, below_setRow B6.out (by omega) _⟩
  ·
   rw [HN.out]
   exact (Own.setRow o_n6.out _ (by omega)).mono (by omega) (by rw [size_setRow]; omega)
  ·
   rw [HN.out]
   exact (Own.setRow o_np6.out _ (by omega)).mono (by omega) (by rw [size_setRow]; omega)
end Go.Proofs.YtchonoonclllbabGreatDoor.Mi
