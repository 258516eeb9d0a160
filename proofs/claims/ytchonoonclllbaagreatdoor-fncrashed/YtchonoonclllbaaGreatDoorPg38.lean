/- Texts in one: KpK, Mj5, Bgn, MiC, Is3. -/
import Derived.Test.YtchonoonclllbaaGreatDoorPg6
import Derived.Test.YtchonoonclllbaaGreatDoorPg27
import Derived.Test.YtchonoonclllbaaGreatDoorPg15
import Derived.Test.YtchonoonclllbaaGreatDoorPg33
import Derived.Test.YtchonoonclllbaaGreatDoorPg37
import Derived.Test.YtchonoonclllbaaGreatDoorPg10
import Derived.Test.YtchonoonclllbaaGreatDoorPg14
import Derived.Test.YtchonoonclllbaaGreatDoorPg19
import Derived.Test.YtchonoonclllbaaGreatDoorPg36
import Derived.Test.YtchonoonclllbaaGreatDoorPg24
import Derived.Lib.MinMax
import Derived.Deep.DeepCutAuto
namespace Go.Proofs.YtchonoonclllbaaGreatDoor.Sr
open Go.RowKit Go.Proofs.YtchonoonclllbaaGreatDoor.Mem Go.Proofs.YtchonoonclllbaaGreatDoor.Laws Go.Proofs.YtchonoonclllbaaGreatDoor.Bytes Go.Proofs.YtchonoonclllbaaGreatDoor.Sha Go.Proofs.YtchonoonclllbaaGreatDoor.Tr Go.Proofs.YtchonoonclllbaaGreatDoor.He Go.Proofs.YtchonoonclllbaaGreatDoor.Lg
set_option linter.unusedVariables false
set_option linter.unusedSimpArgs false
theorem slAllocK (w : World) (cs : List Value) (t : TypeId) : Sl (w.alloc (.cells cs.toArray t)) (.slice (some ⟨w.heap.size, 0, none⟩) cs.length cs.length) cs := by
 refine ⟨_, _, rfl, Nat.le_refl _, fun h => by simp at h, fun _ => ⟨w.heap.size, 0, rfl, fun j hj => ?_⟩⟩
 rw [Nat.zero_add, cell_of_row _ w.heap.size j cs.toArray t (0, 0) (heap_alloc_new w _)]
 simp
theorem part1K {W : World} {a : Value} {p : List Int} (h : Sl W a (bs p)) : ∀ (i : Nat) (v : Value) (q : List Int), [a][i]? = some v → [p][i]? = some q → Sl W v (bs q) := by
 intro i v q h1 h2
 match i with
 | 0 => simp at h1 h2; rw [← h1, ← h2]; exact h
 | i + 1 => simp at h1
set_option maxRecDepth 1000000 in
set_option maxHeartbeats 4000000 in
theorem fall_impl (w : World) (v vb : Value) (l : List ByteArray) (h : Hd) (b : List Int) (s keep : Int) (hs : Sl w v (ss l)) (hb : Sl w vb (bs b)) (hbl : b.length ≤ 1000000000) (hs1 : -9223372036854775808 ≤ s) (hs2 : s ≤ 9223372036854775807) (hk1 : -9223372036854775808 ≤ keep) (hk2 : keep ≤ 9223372036854775807) :
  Calls Tryz.prog 66 #[.agg #[v, .int .i64 h.n, .string h.r, vb, .int .i64 s], .int .i64 keep] w fun e w' => ∃ v', e = .returned v' ∧ Own w' w.heap.size w'.heap.size 5 v' (bs (b.take (fallN ⟨l, h, b, s⟩ keep))) ∧ Below w.heap.size w w' := by
 have HSB : Hid (Sl w vb (bs b)) := hb
 obtain ⟨ao0, cap0, rfl, hc0⟩ := hs.form
 obtain ⟨ao1, cap1, rfl, hc1⟩ := hb.form
 simp only [ss_len, bs_len] at *
 clear hs hb
 obtain ⟨K, hK⟩ : ∃ K, fallN ⟨l, h, b, s⟩ keep = K := ⟨_, rfl⟩
 rw [hK]
 unfold fallN at hK
 simp only at hK
 have B0 : Hid (Below w.heap.size w w) := Below.refl _ _
 obtain ⟨W1, HW1, b1, y1, hS1, r_a1⟩ := Ke.l1 w #[.slice ao0 l.length cap0, .int .i64 h.n, .string h.r, .slice ao1 b.length cap1, .int .i64 s] 30
 have z1 := b1.size
 have B1 := Ke.b B0 b1
 have c_a1 := Ke.c r_a1
 have hKK : K = ((min (max s 0) (b.length : Int)) + min (max keep 0) ((b.length : Int) - (min (max s 0) (b.length : Int)))).toNat := by omega
 have HKK : Hid (K = ((min (max s 0) (b.length : Int)) + min (max keep 0) ((b.length : Int) - (min (max s 0) (b.length : Int)))).toNat) := hKK
 have hKb : ((min (max s 0) (b.length : Int)) + min (max keep 0) ((b.length : Int) - (min (max s 0) (b.length : Int)))).toNat ≤ b.length := by omega
 have w1 : IntKind.i64.wrap ((b.length : Int) - (min (max s 0) (b.length : Int))) = (b.length : Int) - (min (max s 0) (b.length : Int)) := by rw [IntKind.wrap_i64]; omega
 have w2 : IntKind.i64.wrap ((min (max s 0) (b.length : Int)) + min (max keep 0) ((b.length : Int) - (min (max s 0) (b.length : Int)))) = ((min (max s 0) (b.length : Int)) + min (max keep 0) ((b.length : Int) - (min (max s 0) (b.length : Int)))) := by rw [IntKind.wrap_i64]; omega
 have h1 : ((min (max s 0) (b.length : Int)) + min (max keep 0) ((b.length : Int) - (min (max s 0) (b.length : Int)))) ≤ (cap1 : Int) := by omega
 have h2 : 0 ≤ ((min (max s 0) (b.length : Int)) + min (max keep 0) ((b.length : Int) - (min (max s 0) (b.length : Int)))) := by omega
 have h3 : ¬ ((min (max s 0) (b.length : Int)) + min (max keep 0) ((b.length : Int) - (min (max s 0) (b.length : Int)))) < 0 := by omega
 have h4 : ¬ (cap1 : Int) < ((min (max s 0) (b.length : Int)) + min (max keep 0) ((b.length : Int) - (min (max s 0) (b.length : Int)))) := by omega
 clear hKK hK
 have HSK : Hid (∀ W, Below w.heap.size w W → Sl W (.slice ao1 ((min (max s 0) (b.length : Int)) + min (max keep 0) ((b.length : Int) - (min (max s 0) (b.length : Int)))).toNat cap1) (bs (b.take ((min (max s 0) (b.length : Int)) + min (max keep 0) ((b.length : Int) - (min (max s 0) (b.length : Int)))).toNat))) := by
  intro W hW
  have h9 := Sl.front (HSB.out.later hW) ((min (max s 0) (b.length : Int)) + min (max keep 0) ((b.length : Int) - (min (max s 0) (b.length : Int)))).toNat (by rw [bs_len]; omega)
  have e9 : bs (b.take ((min (max s 0) (b.length : Int)) + min (max keep 0) ((b.length : Int) - (min (max s 0) (b.length : Int)))).toNat) = (bs b).take ((min (max s 0) (b.length : Int)) + min (max keep 0) ((b.length : Int) - (min (max s 0) (b.length : Int)))).toNat := by { unfold bs; rw [List.map_take] }
  rw [e9]
  exact h9
 go_enter Tryz.func66, Tryz.ntmps66
 obtain ⟨W2, HW2, b2, ff2⟩ : ∃ X, Hid ((W1.alloc (.cells #[.slice ao1 ((min (max s 0) (b.length : Int)) + min (max keep 0) ((b.length : Int) - (min (max s 0) (b.length : Int)))).toNat cap1] 22)) = X) ∧ Below W1.heap.size W1 X ∧ Hid (Sl X (.slice (some ⟨W1.heap.size, 0, none⟩) 1 1) [.slice ao1 ((min (max s 0) (b.length : Int)) + min (max keep 0) ((b.length : Int) - (min (max s 0) (b.length : Int)))).toNat cap1]) := ⟨_, rfl, (Below.refl _ _).alloc (Nat.le_refl _) _, slAllocK W1 [.slice ao1 ((min (max s 0) (b.length : Int)) + min (max keep 0) ((b.length : Int) - (min (max s 0) (b.length : Int)))).toNat cap1] 22⟩
 have ff2 : Hid (Sl W2 (.slice (some ⟨w.heap.size + 1, 0, none⟩) 1 1) [.slice ao1 ((min (max s 0) (b.length : Int)) + min (max keep 0) ((b.length : Int) - (min (max s 0) (b.length : Int)))).toNat cap1]) := by show Sl _ _ _; have h9 := ff2.out; rw [hS1.out] at h9; exact h9
 have z2 := b2.size
 have B2 := Ke.b B1 b2
 clear r_a1 c_a1
 have qj := joined_impl W2 _ _ [b.take ((min (max s 0) (b.length : Int)) + min (max keep 0) ((b.length : Int) - (min (max s 0) (b.length : Int)))).toNat] ff2.out rfl (part1K (HSK.out _ B2.out)) (by simp) (by simp <;> omega)
 have e9 : [b.take ((min (max s 0) (b.length : Int)) + min (max keep 0) ((b.length : Int) - (min (max s 0) (b.length : Int)))).toNat].flatten = b.take ((min (max s 0) (b.length : Int)) + min (max keep 0) ((b.length : Int) - (min (max s 0) (b.length : Int)))).toNat := by simp
 rw [e9] at qj
 clear e9
 go_wp2_with fail
 rw [HW1.out, HW2.out]
 refine (qj).mono ?_
 rintro e W3 ⟨v_z, rfl, o_z3, b3⟩
 obtain ⟨ao_z, L_z, cap_z, rfl, hL_z, hM_z⟩ := o_z3.form
 have o_z3 : Hid (Own W3 W2.heap.size W3.heap.size 5 (.slice ao_z L_z cap_z) (bs (b.take ((min (max s 0) (b.length : Int)) + min (max keep 0) ((b.length : Int) - (min (max s 0) (b.length : Int)))).toNat))) := o_z3
 clear hL_z hM_z
 have z3 := b3.size
 have B3 := Ke.b B2 b3
 go_wp2
 go_ret
 refine ⟨_, rfl, ?_, B3.out⟩
 rw [HKK.out]
 exact Own.mono o_z3.out (by omega) (Nat.le_refl _)
end Go.Proofs.YtchonoonclllbaaGreatDoor.Sr
namespace Go.Proofs.YtchonoonclllbaaGreatDoor.Mi
open Go.RowKit Go.Proofs.YtchonoonclllbaaGreatDoor.Mem Go.Proofs.YtchonoonclllbaaGreatDoor.Laws Go.Proofs.YtchonoonclllbaaGreatDoor.Bytes Go.Proofs.YtchonoonclllbaaGreatDoor.Sha Go.Proofs.YtchonoonclllbaaGreatDoor.Tr Go.Proofs.YtchonoonclllbaaGreatDoor.He Go.Proofs.YtchonoonclllbaaGreatDoor.Lg Go.Proofs.YtchonoonclllbaaGreatDoor.Sr Go.Proofs.YtchonoonclllbaaGreatDoor.Mg
set_option linter.unusedVariables false
set_option linter.unusedSimpArgs false
set_option maxRecDepth 1000000 in
set_option maxHeartbeats 16000000 in
theorem sync_impl (w : World) (v vb vt : Value) (m : Mr) (t : List Hd) (hG : Glob w) (hN : NoC w) (hh : m.st.h.r.size ≤ 1000000000000) (hgr : m.b.r.size ≤ 1000000000000) (hs : Sl w v (ss m.st.l)) (hb : Sl w vb (bs m.st.b)) (hby : Byt m.st.b) (hst : Sh w vt t) (hl : m.st.l.length ≤ 1000000000) (hbl : m.st.b.length ≤ 1000000000) (htl : t.length ≤ 1000000000) (hz : ∀ s ∈ m.st.l, s.size ≤ 10000000000) :
  Calls Tryz.prog 25 #[.agg #[.int .i64 m.id, v, .int .i64 m.st.h.n, .string m.st.h.r, vb, .int .i64 m.st.s, .int .i64 m.b.n, .string m.b.r], vt] w fun e w' => ∃ v' vb', e = .returned (.agg #[.int .i64 (sync m t).id, v', .int .i64 (sync m t).st.h.n, .string (sync m t).st.h.r, vb', .int .i64 (sync m t).st.s, .int .i64 (sync m t).b.n, .string (sync m t).b.r]) ∧ Own w' w.heap.size w'.heap.size 9 v' (ss (sync m t).st.l) ∧ Own w' w.heap.size w'.heap.size 5 vb' (bs (sync m t).st.b) ∧ Below w.heap.size w w' := by
 obtain ⟨R, hR⟩ : ∃ R, sync m t = R := ⟨_, rfl⟩
 have HR : Hid (sync m t = R) := hR
 rw [hR]
 obtain ⟨id, ⟨l, h, b, s⟩, g⟩ := m
 simp only at *
 have HS : Hid (Sl w v (ss l)) := hs
 have HSB : Hid (Sl w vb (bs b)) := hb
 have HBY : Hid (Byt b) := hby
 have HT : Hid (Sh w vt t) := hst
 have HG : Hid (Glob w) := hG
 have HNC : Hid (NoC w) := hN
 obtain ⟨ao0, cap0, rfl, hc0⟩ := hs.form
 obtain ⟨ao1, cap1, rfl, hc1⟩ := hb.form
 obtain ⟨ao2, cap2, rfl, hc2⟩ := hst.form
 simp only [ss_len, bs_len] at *
 clear hs hb hR hby hst hG hN
 have B0 : Hid (Below w.heap.size w w) := Below.refl _ _
 obtain ⟨W1, HW1, b1, y1, hS1, r_a1, r_res1⟩ := Ke.l2 w #[.int .i64 id, .slice ao0 l.length cap0, .int .i64 h.n, .string h.r, .slice ao1 b.length cap1, .int .i64 s, .int .i64 g.n, .string g.r] 32 #[.int .i64 0, .slice none 0 0, .int .i64 0, .string ⟨#[]⟩, .slice none 0 0, .int .i64 0, .int .i64 0, .string ⟨#[]⟩] 32
 have z1 := b1.size
 have B1 := Ke.b B0 b1
 have c_a1 := Ke.c r_a1
 have c_res1 := Ke.c r_res1
 have q1 : ∀ W v1 v2, Sl W v1 (ss l) → Sl W v2 (bs b) → _ := fun W v1 v2 h1 h2 => mcopy_impl W v1 v2 ⟨id, ⟨l, h, b, s⟩, g⟩ (fun s h => Nat.le_trans (hz s h) (by omega)) hh hgr h1 h2 hl hbl
 simp only at q1
 have q2 : ∀ W v1 v2 v3, Glob W → NoC W → Sl W v1 (ss l) → Sl W v2 (bs b) → Sh W v3 t → _ := fun W v1 v2 v3 hG hN h1 h2 h3 => mirrorok_impl W v1 v2 v3 ⟨id, ⟨l, h, b, s⟩, g⟩ t hG hN hgr h1 h2 HBY.out h3 hl hbl htl hz
 obtain ⟨A, hA⟩ : ∃ A, mirrorOk ⟨id, ⟨l, h, b, s⟩, g⟩ t = A := ⟨_, rfl⟩
 simp only [hA] at q2
 have HA : Hid (mirrorOk ⟨id, ⟨l, h, b, s⟩, g⟩ t = A) := hA
 clear hA
 have q3 : ∀ W v1 v2, Glob W → NoC W → Sl W v1 (ss l) → Sl W v2 (bs b) → _ := fun W v1 v2 hG hN h1 h2 => makesure_impl W v1 v2 ⟨l, h, b, s⟩ hG hN h1 h2 HBY.out hl hbl hz hh
 clear hz
 go_enter Tryz.func25, Tryz.ntmps25
 go_wp2_with fail
 rw [HW1.out]
 refine (q1 W1 _ _ (HS.out.later B1.out) (HSB.out.later B1.out)).mono ?_
 rintro e W2 ⟨v_s, v_p, rfl, o_s2, o_p2, b2⟩
 obtain ⟨lo_s, hi_s, lo_p, hi_p, d1_s, d2_s, d3_s, d4_s, d5_s, d6_s, d7_s, oo_s, oo_p⟩ := Sr.pairN o_s2 o_p2 b2.size
 clear o_s2 o_p2
 obtain ⟨ao_s, L_s, cap_s, rfl, _, _⟩ := oo_s.form
 obtain ⟨ao_p, L_p, cap_p, rfl, _, _⟩ := oo_p.form
 have o_s2 : Hid (Own W2 lo_s hi_s 9 (.slice ao_s L_s cap_s) (ss l)) := oo_s
 have o_p2 : Hid (Own W2 lo_p hi_p 5 (.slice ao_p L_p cap_p) (bs b)) := oo_p
 clear oo_s oo_p
 have z2 := b2.size
 have B2 := Ke.b B1 b2
 have r_a2 := Ke.r r_a1 b2
 have r_res2 := Ke.r r_res1 b2
 have c_a2 := Ke.c r_a2
 have c_res2 := Ke.c r_res2
 clear r_a1 c_a1 r_res1 c_res1
 obtain rfl : L_p = b.length := by obtain ⟨a9, L9, c9, he, h1, h2⟩ := Mem.Own.form o_p2.out; injection he with _ he2 _; rw [bs_len] at h1 h2; omega
 have a_a2 := Ke.a r_a2
 have a_res2 := Ke.a r_res2
 obtain ⟨W3, HW3, b3, y3, hS3, r_out3⟩ := Ke.l1 W2 #[.int .i64 id, .slice ao_s L_s cap_s, .int .i64 h.n, .string h.r, .slice ao_p b.length cap_p, .int .i64 s, .int .i64 g.n, .string g.r] 32
 have z3 := b3.size
 have B3 := Ke.b B2 b3
 have r_a3 := Ke.r r_a2 b3
 have r_res3 := Ke.r r_res2 b3
 have o_s3 := Ke.o o_s2 b3
 have o_p3 := Ke.o o_p2 b3
 have c_a3 := Ke.c r_a3
 have c_res3 := Ke.c r_res3
 have c_out3 := Ke.c r_out3
 clear r_a2 c_a2 r_res2 c_res2 o_s2 o_p2
 go_wp2_with fail
 rw [HW3.out]
 clear a_a2 a_res2
 refine (q2 W3 _ _ _ (HG.out.later B3.out) (NoC.later HNC.out B3.out) (HS.out.later B3.out) (HSB.out.later B3.out) (HT.out.later B3.out)).mono ?_
 rintro e W4 ⟨rfl, b4⟩
 have z4 := b4.size
 have B4 := Ke.b B3 b4
 have r_a4 := Ke.r r_a3 b4
 have r_res4 := Ke.r r_res3 b4
 have r_out4 := Ke.r r_out3 b4
 have o_s4 := Ke.o o_s3 b4
 have o_p4 := Ke.o o_p3 b4
 have c_a4 := Ke.c r_a4
 have c_res4 := Ke.c r_res4
 have c_out4 := Ke.c r_out4
 clear r_a3 c_a3 r_res3 c_res3 r_out3 c_out3 o_s3 o_p3
 cases A
 ·
  have HN : Hid (R = ⟨id, ⟨l, h, b, s⟩, g⟩) := by show _ = _; rw [← HR.out]; unfold sync; rw [HA.out]; rfl
  go_wp2_with (first | (refine wpList_load_row rfl 32 _ rfl (W2.heap.size) rfl 32 (mq id (.slice ao_s L_s cap_s) h (.slice ao_p b.length cap_p) s g) (0, 0) _ r_out4.out Tryz.underlying32 rfl (sizeQ _ _ _ _ _ _) ?_) | (refine wpList_store_row rfl 32 _ _ rfl (w.heap.size + 1) (mq id (.slice ao_s L_s cap_s) h (.slice ao_p b.length cap_p) s g) rfl rfl 32 _ r_res4.out (sizeQ _ _ _ _ _ _) rfl (oneQ _ _ _ _ rfl rfl) ?_))
  refine bodyPost_ret (v := .agg (mq id (.slice ao_s L_s cap_s) h (.slice ao_p b.length cap_p) s g)) (results_cell_row rfl _ _ (w.heap.size + 1) 32 _ (0, 0) _ rfl (setRow_heap _ _ _ _ _ (0, 0) r_res4.out) Tryz.underlying32 rfl (sizeQ _ _ _ _ _ _)) rfl ⟨.slice ao_s L_s cap_s, .slice ao_p b.length cap_p, by rw [HN.out]; rfl, ?_, ?_, below_setRow B4.out (by omega) _⟩
  ·
   rw [HN.out]
   exact (Own.setRow o_s4.out _ (by omega)).mono (by omega) (by rw [size_setRow]; omega)
  ·
   rw [HN.out]
   exact (Own.setRow o_p4.out _ (by omega)).mono (by omega) (by rw [size_setRow]; omega)
 ·
  have HN : Hid (R = ⟨id, ⟨l, h, b, (b.length : Int)⟩, g⟩) := by show _ = _; rw [← HR.out]; unfold sync; rw [HA.out]; rfl
  have hms : makeSure ⟨l, h, b, s⟩ = ⟨l, h, b, (b.length : Int)⟩ := by unfold makeSure; rw [if_pos (ok_split HA.out).2.1]
  simp only [hms] at q3
  clear hms
  go_wp2_with fail
  refine (q3 W4 _ _ (HG.out.later B4.out) (NoC.later HNC.out B4.out) (HS.out.later B4.out) (HSB.out.later B4.out)).mono ?_
  rintro e W5 ⟨v_n, v_np, rfl, o_n5, o_np5, b5⟩
  obtain ⟨lo_n, hi_n, lo_np, hi_np, d1_n, d2_n, d3_n, d4_n, d5_n, d6_n, d7_n, oo_n, oo_np⟩ := Sr.pairN o_n5 o_np5 b5.size
  clear o_n5 o_np5
  obtain ⟨ao_n, L_n, cap_n, rfl, _, _⟩ := oo_n.form
  obtain ⟨ao_np, L_np, cap_np, rfl, _, _⟩ := oo_np.form
  have o_n5 : Hid (Own W5 lo_n hi_n 9 (.slice ao_n L_n cap_n) (ss l)) := oo_n
  have o_np5 : Hid (Own W5 lo_np hi_np 5 (.slice ao_np L_np cap_np) (bs b)) := oo_np
  clear oo_n oo_np
  have z5 := b5.size
  have B5 := Ke.b B4 b5
  have r_a5 := Ke.r r_a4 b5
  have r_res5 := Ke.r r_res4 b5
  have r_out5 := Ke.r r_out4 b5
  have o_s5 := Ke.o o_s4 b5
  have o_p5 := Ke.o o_p4 b5
  have c_a5 := Ke.c r_a5
  have c_res5 := Ke.c r_res5
  have c_out5 := Ke.c r_out5
  clear r_a4 c_a4 r_res4 c_res4 r_out4 c_out4 o_s4 o_p4
  go_wp2_with (refine wpl_partG rfl 30 _ _ rfl (W2.heap.size) 1 (sc (.slice ao_n L_n cap_n) h (.slice ao_np L_np cap_np) (b.length : Int)) rfl rfl [.int .i64 id, .slice ao_s L_s cap_s, .int .i64 h.n, .string h.r, .slice ao_p b.length cap_p, .int .i64 s, .int .i64 g.n, .string g.r] 32 r_out5.out (Nat.le_of_ble_eq_true rfl) (sizeS _ _ _ _) (oneS _ _ rfl rfl) [.int .i64 id, .slice ao_n L_n cap_n, .int .i64 h.n, .string h.r, .slice ao_np L_np cap_np, .int .i64 (b.length : Int), .int .i64 g.n, .string g.r] rfl ?_)
  intro W6 r_out6 g6
  have r_out6 := Ke.h r_out6
  have z6 := g6.size
  have B6 : Hid (Below w.heap.size w W6) := belowGro B5.out g6 B5.out.size (fun k9 h9 => by injection h9 with h9; have := B5.out.size; omega)
  have r_a6 := Ke.s r_a5 g6
  have r_res6 := Ke.s r_res5 g6
  have o_s6 := Ke.t o_s5 r_out5 g6
  have o_p6 := Ke.t o_p5 r_out5 g6
  have o_n6 := Ke.t o_n5 r_out5 g6
  have o_np6 := Ke.t o_np5 r_out5 g6
  have c_a6 := Ke.c r_a6
  have c_res6 := Ke.c r_res6
  have c_out6 := Ke.c r_out6
  clear r_a5 c_a5 r_res5 c_res5 o_s5 o_p5 o_n5 o_np5
  clear r_out5 c_out5
  clear g6
  go_wp2_with (first | (refine wpList_load_row rfl 32 _ rfl (W2.heap.size) rfl 32 (mq id (.slice ao_n L_n cap_n) h (.slice ao_np L_np cap_np) (b.length : Int) g) (0, 0) _ r_out6.out Tryz.underlying32 rfl (sizeQ _ _ _ _ _ _) ?_) | (refine wpList_store_row rfl 32 _ _ rfl (w.heap.size + 1) (mq id (.slice ao_n L_n cap_n) h (.slice ao_np L_np cap_np) (b.length : Int) g) rfl rfl 32 _ r_res6.out (sizeQ _ _ _ _ _ _) rfl (oneQ _ _ _ _ rfl rfl) ?_))
  refine bodyPost_ret (v := .agg (mq id (.slice ao_n L_n cap_n) h (.slice ao_np L_np cap_np) (b.length : Int) g)) (results_cell_row rfl _ _ (w.heap.size + 1) 32 _ (0, 0) _ rfl (setRow_heap _ _ _ _ _ (0, 0) r_res6.out) Tryz.underlying32 rfl (sizeQ _ _ _ _ _ _)) rfl ⟨.slice ao_n L_n cap_n, .slice ao_np L_np cap_np, by rw [HN.out]; rfl, ?_, ?_, below_setRow B6.out (by omega) _⟩
  ·
   rw [HN.out]
   exact (Own.setRow o_n6.out _ (by omega)).mono (by omega) (by rw [size_setRow]; omega)
  ·
   rw [HN.out]
   exact (Own.setRow o_np6.out _ (by omega)).mono (by omega) (by rw [size_setRow]; omega)
set_option maxRecDepth 1000000 in
set_option maxHeartbeats 16000000 in
theorem crash_impl (w : World) (v vb vt : Value) (m : Mr) (t : List Hd) (keep : Int) (hG : Glob w) (hN : NoC w) (hh : m.st.h.r.size ≤ 1000000000000) (hgr : m.b.r.size ≤ 1000000000000)  {a0 a1 a2 a3 : Addr} (hF : Is.Four w a0 a1 a2 a3) (hs1 : -9223372036854775808 ≤ m.st.s) (hs2 : m.st.s ≤ 9223372036854775807) (hk1 : -9223372036854775808 ≤ keep) (hk2 : keep ≤ 9223372036854775807) (hs : Sl w v (ss m.st.l)) (hb : Sl w vb (bs m.st.b)) (hby : Byt m.st.b) (hst : Sh w vt t) (hl : m.st.l.length ≤ 1000000000) (hbl : m.st.b.length ≤ 1000000000) (htl : t.length ≤ 1000000000) (hz : ∀ s ∈ m.st.l, s.size ≤ 10000000000) :
  Calls Tryz.prog 23 #[.agg #[.int .i64 m.id, v, .int .i64 m.st.h.n, .string m.st.h.r, vb, .int .i64 m.st.s, .int .i64 m.b.n, .string m.b.r], vt, .int .i64 keep] w fun e w' => ∃ v' vb', e = .returned (.tuple #[.agg #[.int .i64 (crash m t keep).1.id, v', .int .i64 (crash m t keep).1.st.h.n, .string (crash m t keep).1.st.h.r, vb', .int .i64 (crash m t keep).1.st.s, .int .i64 (crash m t keep).1.b.n, .string (crash m t keep).1.b.r], .int .i64 (crash m t keep).2]) ∧ Own w' w.heap.size w'.heap.size 9 v' (ss (crash m t keep).1.st.l) ∧ Own w' w.heap.size w'.heap.size 5 vb' (bs (crash m t keep).1.st.b) ∧ Below w.heap.size w w' := by
 have HF : Hid (Is.Four w a0 a1 a2 a3) := hF
 clear hF
 obtain ⟨R, hR⟩ : ∃ R, crash m t keep = R := ⟨_, rfl⟩
 have HR : Hid (crash m t keep = R) := hR
 rw [hR]
 obtain ⟨id, ⟨l, h, b, s⟩, g⟩ := m
 simp only at *
 have HS : Hid (Sl w v (ss l)) := hs
 have HSB : Hid (Sl w vb (bs b)) := hb
 have HBY : Hid (Byt b) := hby
 have HT : Hid (Sh w vt t) := hst
 have HG : Hid (Glob w) := hG
 have HNC : Hid (NoC w) := hN
 obtain ⟨ao0, cap0, rfl, hc0⟩ := hs.form
 obtain ⟨ao1, cap1, rfl, hc1⟩ := hb.form
 obtain ⟨ao2, cap2, rfl, hc2⟩ := hst.form
 simp only [ss_len, bs_len] at *
 clear hs hb hR hby hst hG hN
 have B0 : Hid (Below w.heap.size w w) := Below.refl _ _
 obtain ⟨W1, HW1, b1, y1, hS1, r_a1, r_res1⟩ := Ke.l2 w #[.int .i64 id, .slice ao0 l.length cap0, .int .i64 h.n, .string h.r, .slice ao1 b.length cap1, .int .i64 s, .int .i64 g.n, .string g.r] 32 #[.int .i64 0, .slice none 0 0, .int .i64 0, .string ⟨#[]⟩, .slice none 0 0, .int .i64 0, .int .i64 0, .string ⟨#[]⟩] 32
 have z1 := b1.size
 have B1 := Ke.b B0 b1
 have c_a1 := Ke.c r_a1
 have c_res1 := Ke.c r_res1
 have q1 : ∀ W v1 v2, Sl W v1 (ss l) → Sl W v2 (bs b) → _ := fun W v1 v2 h1 h2 => mcopy_impl W v1 v2 ⟨id, ⟨l, h, b, s⟩, g⟩ (fun s h => Nat.le_trans (hz s h) (by omega)) hh hgr h1 h2 hl hbl
 simp only at q1
 have q2 : ∀ W v1 v2 v3, Glob W → NoC W → Sl W v1 (ss l) → Sl W v2 (bs b) → Sh W v3 t → _ := fun W v1 v2 v3 hG hN h1 h2 h3 => mirrorok_impl W v1 v2 v3 ⟨id, ⟨l, h, b, s⟩, g⟩ t hG hN hgr h1 h2 HBY.out h3 hl hbl htl hz
 obtain ⟨A, hA⟩ : ∃ A, mirrorOk ⟨id, ⟨l, h, b, s⟩, g⟩ t = A := ⟨_, rfl⟩
 simp only [hA] at q2
 have HA : Hid (mirrorOk ⟨id, ⟨l, h, b, s⟩, g⟩ t = A) := hA
 clear hA
 have q3 : ∀ W v1 v2, Sl W v1 (ss l) → Sl W v2 (bs b) → _ := fun W v1 v2 h1 h2 => fall_impl W v1 v2 l h b s keep h1 h2 hbl hs1 hs2 hk1 hk2
 obtain ⟨xs, hxs⟩ : ∃ xs, b.take (fallN ⟨l, h, b, s⟩ keep) = xs := ⟨_, rfl⟩
 simp only [hxs] at q3
 have hxl : xs.length ≤ 1000000000 := by rw [← hxs, List.length_take]; omega
 have hxb : Byt xs := fun y hy => HBY.out y (List.mem_of_mem_take (by rw [hxs]; exact hy))
 have q4 : ∀ W v1 v2, Glob W → NoC W → Is.Four W a0 a1 a2 a3 → Sh W v1 t → Sl W v2 (bs xs) → _ := fun W v1 v2 hG hN hF h1 h2 => open_impl W v1 v2 t xs _ hG hN hF h1 h2 hxb (by omega) htl rfl
 obtain ⟨L, H, Bb, S, c, hO⟩ : ∃ L H B S c, openS t xs = (⟨L, H, B, S⟩, c) := ⟨_, _, _, _, _, rfl⟩
 simp only [hO] at q4
 have hHr : H.r.size ≤ 1000000000000 := by
  have h9 := (logOk_yes (ok_parts (openS_ok t hxb).1).1).2
  rw [hO] at h9
  simp only at h9
  rw [h9]
  exact Nat.le_trans (headOf_size _) (by omega)
 have q5 : ∀ W, _ := fun W => own_impl W H hHr
 have HO : Hid (crash1 ⟨id, ⟨l, h, b, s⟩, g⟩ t keep = (⟨id, ⟨L, H, Bb, S⟩, H⟩, (c : Int))) := by show _ = _; unfold crash1 fall; simp only; rw [hxs, hO]
 clear hxs hO hxb
 clear hz
 go_enter Tryz.func23, Tryz.ntmps23
 go_wp2_with fail
 rw [HW1.out]
 refine (q2 W1 _ _ _ (HG.out.later B1.out) (NoC.later HNC.out B1.out) (HS.out.later B1.out) (HSB.out.later B1.out) (HT.out.later B1.out)).mono ?_
 rintro e W2 ⟨rfl, b2⟩
 have z2 := b2.size
 have B2 := Ke.b B1 b2
 have r_a2 := Ke.r r_a1 b2
 have r_res2 := Ke.r r_res1 b2
 have c_a2 := Ke.c r_a2
 have c_res2 := Ke.c r_res2
 clear r_a1 c_a1 r_res1 c_res1
 cases A
 ·
  have HN : Hid (R = (⟨id, ⟨l, h, b, s⟩, g⟩, -1)) := by show _ = _; rw [← HR.out]; unfold crash; rw [HA.out]; rfl
  go_wp2_with fail
  refine (q1 W2 _ _ (HS.out.later B2.out) (HSB.out.later B2.out)).mono ?_
  rintro e W3 ⟨v_s, v_p, rfl, o_s3, o_p3, b3⟩
  obtain ⟨lo_s, hi_s, lo_p, hi_p, d1_s, d2_s, d3_s, d4_s, d5_s, d6_s, d7_s, oo_s, oo_p⟩ := Sr.pairN o_s3 o_p3 b3.size
  clear o_s3 o_p3
  obtain ⟨ao_s, L_s, cap_s, rfl, _, _⟩ := oo_s.form
  obtain ⟨ao_p, L_p, cap_p, rfl, _, _⟩ := oo_p.form
  have o_s3 : Hid (Own W3 lo_s hi_s 9 (.slice ao_s L_s cap_s) (ss l)) := oo_s
  have o_p3 : Hid (Own W3 lo_p hi_p 5 (.slice ao_p L_p cap_p) (bs b)) := oo_p
  clear oo_s oo_p
  have z3 := b3.size
  have B3 := Ke.b B2 b3
  have r_a3 := Ke.r r_a2 b3
  have r_res3 := Ke.r r_res2 b3
  have c_a3 := Ke.c r_a3
  have c_res3 := Ke.c r_res3
  clear r_a2 c_a2 r_res2 c_res2
  go_wp2_with (refine wpList_store_row rfl 32 _ _ rfl (w.heap.size + 1) (mq id (.slice ao_s L_s cap_s) h (.slice ao_p L_p cap_p) s g) rfl rfl 32 _ r_res3.out (sizeQ _ _ _ _ _ _) rfl (oneQ _ _ _ _ rfl rfl) ?_)
  refine bodyPost_ret (res_row_tmp rfl _ _ (w.heap.size + 1) 32 (mq id (.slice ao_s L_s cap_s) h (.slice ao_p L_p cap_p) s g) (0, 0) _ rfl (setRow_heap _ _ _ _ _ (0, 0) r_res3.out) Tryz.underlying32 rfl (sizeQ _ _ _ _ _ _)) rfl ⟨.slice ao_s L_s cap_s, .slice ao_p L_p cap_p, by rw [HN.out]; rfl, ?_, ?_, below_setRow B3.out (by omega) _⟩
  ·
   rw [HN.out]
   exact (Own.setRow o_s3.out _ (by omega)).mono (by omega) (by rw [size_setRow]; omega)
  ·
   rw [HN.out]
   exact (Own.setRow o_p3.out _ (by omega)).mono (by omega) (by rw [size_setRow]; omega)
 ·
  have HN : Hid (R = (⟨id, ⟨L, H, Bb, S⟩, H⟩, (c : Int))) := by show _ = _; rw [← HR.out]; unfold crash; rw [HA.out]; exact HO.out
  go_wp2_with fail
  refine (q3 W2 _ _ (HS.out.later B2.out) (HSB.out.later B2.out)).mono ?_
  rintro e W3 ⟨v_f, rfl, o_f3, b3⟩
  obtain ⟨ao_f, L_f, cap_f, rfl, hL_f, hM_f⟩ := o_f3.form
  have o_f3 : Hid (Own W3 W2.heap.size W3.heap.size 5 (.slice ao_f L_f cap_f) (bs xs)) := o_f3
  clear hL_f hM_f
  have z3 := b3.size
  have B3 := Ke.b B2 b3
  have r_a3 := Ke.r r_a2 b3
  have r_res3 := Ke.r r_res2 b3
  have c_a3 := Ke.c r_a3
  have c_res3 := Ke.c r_res3
  clear r_a2 c_a2 r_res2 c_res2
  go_wp2_with fail
  refine (q4 W3 _ _ (HG.out.later B3.out) (NoC.later HNC.out B3.out) (HF.out.later B3.out) (HT.out.later B3.out) o_f3.out.sl).mono ?_
  rintro e W4 ⟨v_n, v_np, rfl, o_n4, o_np4, b4⟩
  obtain ⟨lo_n, hi_n, lo_np, hi_np, d1_n, d2_n, d3_n, d4_n, d5_n, d6_n, d7_n, oo_n, oo_np⟩ := Sr.pairN o_n4 o_np4 b4.size
  clear o_n4 o_np4
  obtain ⟨ao_n, L_n, cap_n, rfl, _, _⟩ := oo_n.form
  obtain ⟨ao_np, L_np, cap_np, rfl, _, _⟩ := oo_np.form
  have o_n4 : Hid (Own W4 lo_n hi_n 9 (.slice ao_n L_n cap_n) (ss L)) := oo_n
  have o_np4 : Hid (Own W4 lo_np hi_np 5 (.slice ao_np L_np cap_np) (bs Bb)) := oo_np
  clear oo_n oo_np
  have z4 := b4.size
  have B4 := Ke.b B3 b4
  have r_a4 := Ke.r r_a3 b4
  have r_res4 := Ke.r r_res3 b4
  have o_f4 := Ke.o o_f3 b4
  have c_a4 := Ke.c r_a4
  have c_res4 := Ke.c r_res4
  clear r_a3 c_a3 r_res3 c_res3 o_f3
  clear o_f4
  have a_a4 := Ke.a r_a4
  have a_res4 := Ke.a r_res4
  obtain ⟨W5, HW5, b5, y5, hS5, r_st5⟩ := Ke.l1 W4 #[.slice ao_n L_n cap_n, .int .i64 H.n, .string H.r, .slice ao_np L_np cap_np, .int .i64 S] 30
  have z5 := b5.size
  have B5 := Ke.b B4 b5
  have r_a5 := Ke.r r_a4 b5
  have r_res5 := Ke.r r_res4 b5
  have o_n5 := Ke.o o_n4 b5
  have o_np5 := Ke.o o_np4 b5
  have c_a5 := Ke.c r_a5
  have c_res5 := Ke.c r_res5
  have c_st5 := Ke.c r_st5
  clear r_a4 c_a4 r_res4 c_res4 o_n4 o_np4
  go_wp2_with fail
  rw [HW5.out]
  clear a_a4 a_res4
  refine wp_region_held_drew (S := fun w' => w'.cell? ⟨w.heap.size, 0, none⟩ = some (.int .i64 id) ∧ w'.cell? ⟨w.heap.size, 1, none⟩ = some (.slice ao0 l.length cap0) ∧ w'.cell? ⟨w.heap.size, 2, none⟩ = some (.int .i64 h.n) ∧ w'.cell? ⟨w.heap.size, 3, none⟩ = some (.string h.r) ∧ w'.cell? ⟨w.heap.size, 4, none⟩ = some (.slice ao1 b.length cap1) ∧ w'.cell? ⟨w.heap.size, 5, none⟩ = some (.int .i64 s) ∧ w'.cell? ⟨w.heap.size, 6, none⟩ = some (.int .i64 g.n) ∧ w'.cell? ⟨w.heap.size, 7, none⟩ = some (.string g.r) ∧ w'.cell? ⟨W4.heap.size, 0, none⟩ = some (.slice ao_n L_n cap_n) ∧ w'.cell? ⟨W4.heap.size, 1, none⟩ = some (.int .i64 H.n) ∧ w'.cell? ⟨W4.heap.size, 2, none⟩ = some (.string H.r) ∧ w'.cell? ⟨W4.heap.size, 3, none⟩ = some (.slice ao_np L_np cap_np) ∧ w'.cell? ⟨W4.heap.size, 4, none⟩ = some (.int .i64 S)) (by kernel_rfl) ⟨(c_a5 0), (c_a5 1), (c_a5 2), (c_a5 3), (c_a5 4), (c_a5 5), (c_a5 6), (c_a5 7), (c_st5 0), (c_st5 1), (c_st5 2), (c_st5 3), (c_st5 4)⟩ (fun hHeld => ?_)
  refine Ke.y 0 rfl (fun _ _ _ h => h) ?_
  try simp only [Act.put, pu1, pu2, pu3, pu4, pu5, pu6]
  refine Ke.y 1 rfl (fun _ _ _ h => h) ?_
  try simp only [Act.put, pu1, pu2, pu3, pu4, pu5, pu6]
  refine Ke.y 2 rfl (fun _ _ _ h => h) ?_
  try simp only [Act.put, pu1, pu2, pu3, pu4, pu5, pu6]
  refine Ke.y 3 rfl (fun _ _ _ h => h) ?_
  try simp only [Act.put, pu1, pu2, pu3, pu4, pu5, pu6]
  refine Ke.y 4 rfl (fun _ _ _ h => h) ?_
  try simp only [Act.put, pu1, pu2, pu3, pu4, pu5, pu6]
  refine Ke.y 5 rfl (fun _ _ _ h => h) ?_
  try simp only [Act.put, pu1, pu2, pu3, pu4, pu5, pu6]
  refine Ke.y 8 rfl (fun _ _ _ h => h) ?_
  try simp only [Act.put, pu1, pu2, pu3, pu4, pu5, pu6]
  refine Ke.z 6 rfl (fun K hK => ?_)
  go_simp
  refine (q5 W5.drew).mono ?_
  rintro e W6 ⟨rfl, b6⟩
  have b6 : Below W5.heap.size W5 W6 := (Below.drew (Below.refl _ _)).trans b6
  refine hK.out _ _ ⟨(keepR (W := W5) hHeld.1 b6), (keepR (W := W5) hHeld.2.1 b6), (keepR (W := W5) hHeld.2.2.1 b6), (keepR (W := W5) hHeld.2.2.2.1 b6), (keepR (W := W5) hHeld.2.2.2.2.1 b6), (keepR (W := W5) hHeld.2.2.2.2.2.1 b6), (keepR (W := W5) hHeld.2.2.2.2.2.2.1 b6), (keepR (W := W5) hHeld.2.2.2.2.2.2.2.1 b6), (keepR (W := W5) hHeld.2.2.2.2.2.2.2.2.1 b6), (keepR (W := W5) hHeld.2.2.2.2.2.2.2.2.2.1 b6), (keepR (W := W5) hHeld.2.2.2.2.2.2.2.2.2.2.1 b6), (keepR (W := W5) hHeld.2.2.2.2.2.2.2.2.2.2.2.1 b6), (keepR (W := W5) hHeld.2.2.2.2.2.2.2.2.2.2.2.2 b6)⟩ (fun hHeld => ?_)
  clear hK K
  try simp only [Act.put, pu1, pu2, pu3, pu4, pu5, pu6]
  have z6 := b6.size
  have B6 := Ke.b B5 b6
  have r_a6 := Ke.r r_a5 b6
  have r_res6 := Ke.r r_res5 b6
  have r_st6 := Ke.r r_st5 b6
  have o_n6 := Ke.o o_n5 b6
  have o_np6 := Ke.o o_np5 b6
  have c_a6 := Ke.c r_a6
  have c_res6 := Ke.c r_res6
  have c_st6 := Ke.c r_st6
  clear r_a5 c_a5 r_res5 c_res5 r_st5 c_st5 o_n5 o_np5
  refine Ke.y 7 rfl (fun _ _ _ h => h) ?_
  try simp only [Act.put, pu1, pu2, pu3, pu4, pu5, pu6]
  refine Ke.z 9 rfl (fun K hK => ?_)
  rw [if_pos (by rfl)]
  refine wp_store_row 32 _ _ rfl (w.heap.size + 1) (mq id (.slice ao_n L_n cap_n) H (.slice ao_np L_np cap_np) S H) rfl rfl 32 _ r_res6.out (sizeQ _ _ _ _ _ _) rfl (oneQ _ _ _ _ rfl rfl) ?_
  refine hK.out _ _ ⟨(cell_row (by show w.heap.size ≠ w.heap.size + 1; omega) hHeld.1), (cell_row (by show w.heap.size ≠ w.heap.size + 1; omega) hHeld.2.1), (cell_row (by show w.heap.size ≠ w.heap.size + 1; omega) hHeld.2.2.1), (cell_row (by show w.heap.size ≠ w.heap.size + 1; omega) hHeld.2.2.2.1), (cell_row (by show w.heap.size ≠ w.heap.size + 1; omega) hHeld.2.2.2.2.1), (cell_row (by show w.heap.size ≠ w.heap.size + 1; omega) hHeld.2.2.2.2.2.1), (cell_row (by show w.heap.size ≠ w.heap.size + 1; omega) hHeld.2.2.2.2.2.2.1), (cell_row (by show w.heap.size ≠ w.heap.size + 1; omega) hHeld.2.2.2.2.2.2.2.1), (cell_row (by show W4.heap.size ≠ w.heap.size + 1; omega) hHeld.2.2.2.2.2.2.2.2.1), (cell_row (by show W4.heap.size ≠ w.heap.size + 1; omega) hHeld.2.2.2.2.2.2.2.2.2.1), (cell_row (by show W4.heap.size ≠ w.heap.size + 1; omega) hHeld.2.2.2.2.2.2.2.2.2.2.1), (cell_row (by show W4.heap.size ≠ w.heap.size + 1; omega) hHeld.2.2.2.2.2.2.2.2.2.2.2.1), (cell_row (by show W4.heap.size ≠ w.heap.size + 1; omega) hHeld.2.2.2.2.2.2.2.2.2.2.2.2)⟩ (fun hHeld => ?_)
  clear hK K
  try simp only [Act.put, pu1, pu2, pu3, pu4, pu5, pu6]
  refine Ke.y 10 rfl (fun _ _ _ h => h) ?_
  try simp only [Act.put, pu1, pu2, pu3, pu4, pu5, pu6]
  refine wpAnyH_done (by kernel_rfl) ?_ _
  clear hHeld
  go_wp2
  refine bodyPost_ret (res_row_tmp rfl _ _ (w.heap.size + 1) 32 (mq id (.slice ao_n L_n cap_n) H (.slice ao_np L_np cap_np) S H) (0, 0) _ rfl (setRow_heap _ _ _ _ _ (0, 0) r_res6.out) Tryz.underlying32 rfl (sizeQ _ _ _ _ _ _)) rfl ⟨.slice ao_n L_n cap_n, .slice ao_np L_np cap_np, by rw [HN.out]; rfl, ?_, ?_, below_setRow B6.out (by omega) _⟩
  ·
   rw [HN.out]
   exact (Own.setRow o_n6.out _ (by omega)).mono (by omega) (by rw [size_setRow]; omega)
  ·
   rw [HN.out]
   exact (Own.setRow o_np6.out _ (by omega)).mono (by omega) (by rw [size_setRow]; omega)
end Go.Proofs.YtchonoonclllbaaGreatDoor.Mi
namespace Go.Proofs.YtchonoonclllbaaGreatDoor.Sr
open Go.RowKit Go.Proofs.YtchonoonclllbaaGreatDoor.Mem Go.Proofs.YtchonoonclllbaaGreatDoor.Laws Go.Proofs.YtchonoonclllbaaGreatDoor.Bytes Go.Proofs.YtchonoonclllbaaGreatDoor.Sha Go.Proofs.YtchonoonclllbaaGreatDoor.Tr
set_option linter.unusedVariables false
set_option linter.unusedSimpArgs false
set_option maxRecDepth 1000000 in
set_option maxHeartbeats 2000000 in
theorem begins14 (w : World) (v1 v2 : Value) (l m : List ByteArray) (h1 : Sl w v1 (ss l)) (h2 : Sl w v2 (ss m)) (hp : l <+: m) (hm : m.length ≤ 1000000) :
  Calls Tryz.prog 16 #[v1, v2] w fun e w' => e = .returned (.bool true) ∧ Below w.heap.size w w' := by
 obtain ⟨x, rfl⟩ := hp
 have hlm : l.length ≤ (l ++ x).length := by rw [List.length_append]; omega
 have H1 := h1
 have H2 := h2
 obtain ⟨ao1, cap1, rfl, hc1⟩ := h1.form
 obtain ⟨ao2, cap2, rfl, hc2⟩ := h2.form
 simp only [ss_len] at *
 have hf : Sl w (.slice ao2 l.length cap2) (ss l) := by
  have h9 := Sl.front H2 l.length (by rw [ss_len]; exact hlm)
  have e9 : (ss (l ++ x)).take l.length = ss l := by unfold ss; rw [← List.map_take, List.take_left]
  rw [e9] at h9
  exact h9
 have q := Draw.same_true w _ _ l H1 hf (by omega)
 have d2 : (l.length : Int) ≤ (cap2 : Int) := by omega
 obtain ⟨N, hN⟩ : ∃ N, (l ++ x).length = N := ⟨_, rfl⟩
 rw [hN] at hlm ⊢
 have d1 : (l.length : Int) ≤ (N : Int) := by omega
 have d3 : decide ((l.length : Int) ≤ (N : Int)) = true := by simp [d1]
 clear H1 H2 hf h1 h2 hN hc2 hm
 go_enter Tryz.func16, Tryz.ntmps16
 go_wp2_with fail
 refine q.mono ?_
 rintro e w1 ⟨rfl, hb, _⟩
 go_wp2
 go_ret
 exact ⟨rfl, hb _⟩
end Go.Proofs.YtchonoonclllbaaGreatDoor.Sr
namespace Go.Proofs.YtchonoonclllbaaGreatDoor.Mi
open Go.RowKit Go.Proofs.YtchonoonclllbaaGreatDoor.Mem Go.Proofs.YtchonoonclllbaaGreatDoor.Laws Go.Proofs.YtchonoonclllbaaGreatDoor.Bytes Go.Proofs.YtchonoonclllbaaGreatDoor.Sha Go.Proofs.YtchonoonclllbaaGreatDoor.Tr Go.Proofs.YtchonoonclllbaaGreatDoor.He Go.Proofs.YtchonoonclllbaaGreatDoor.Lg Go.Proofs.YtchonoonclllbaaGreatDoor.Sr Go.Proofs.YtchonoonclllbaaGreatDoor.Mg
set_option linter.unusedVariables false
set_option linter.unusedSimpArgs false
theorem crash_14 {m : Mr} {t : List Hd} {keep : Int} (h : A14 m) : ∃ (X : Mr) (c : Int) (S3 : Int) (Y : Mr) (c4 : Int), crash m t keep = (X, c) ∧ sync m t = ⟨m.id, ⟨m.st.l, m.st.h, m.st.b, S3⟩, m.b⟩ ∧ -1 ≤ S3 ∧ S3 ≤ 100000 ∧ crash ⟨m.id, ⟨m.st.l, m.st.h, m.st.b, S3⟩, m.b⟩ t 0 = (Y, c4) ∧
  X.st.l.length ≤ 1000 ∧ X.st.b.length ≤ 100000 ∧ Byt X.st.b ∧ (∀ s ∈ X.st.l, s.size ≤ 1000) ∧ Y.st.l.length ≤ 1000 ∧ Y.st.b.length ≤ 100000 ∧
  (mirrorOk m t = false → X.st.l = m.st.l ∧ c = -1) ∧
  (mirrorOk m t = true → 0 ≤ c ∧ storeOk X.st = true ∧ X.st.l <+: m.st.l ∧ X.b = X.st.h ∧ mirrorOk ⟨m.id, ⟨m.st.l, m.st.h, m.st.b, S3⟩, m.b⟩ t = true ∧ X.st.l.length ≤ Y.st.l.length) := by
 have hb := h.st.byt
 have h1 := h.st.len
 have h2 := h.st.bl
 have h3 := h.st.lo
 have h4 := h.st.hi
 have small : ∀ m2 : Mr, m2.st.l = m.st.l → m2.st.b = m.st.b → ∀ k, (crash m2 t k).1.st.l.length ≤ 1000 ∧ (crash m2 t k).1.st.b.length ≤ 100000 ∧ Byt (crash m2 t k).1.st.b := by
  intro m2 e1 e2 k
  unfold crash
  split
  ·
   have hf : Byt (fall m2.st k) := fun y hy => by
    unfold fall at hy
    rw [e2] at hy
    exact hb y (List.mem_of_mem_take hy)
   obtain ⟨a, b, _⟩ := open_small t hf
   unfold crash1
   exact ⟨by simp only; omega, by simp only; omega, ok_good_byt t hf⟩
  ·
   rw [e1, e2]
   exact ⟨by omega, by omega, hb⟩
 obtain ⟨S3, hS, hS1, hS2⟩ : ∃ S3, sync m t = ⟨m.id, ⟨m.st.l, m.st.h, m.st.b, S3⟩, m.b⟩ ∧ -1 ≤ S3 ∧ S3 ≤ 100000 := by
  unfold sync
  split
  ·
   exact ⟨_, rfl, by omega, by omega⟩
  ·
   exact ⟨m.st.s, rfl, by omega, by omega⟩
 obtain ⟨X, c, hX⟩ : ∃ X c, crash m t keep = (X, c) := ⟨_, _, rfl⟩
 obtain ⟨Y, c4, hY⟩ : ∃ Y c, crash ⟨m.id, ⟨m.st.l, m.st.h, m.st.b, S3⟩, m.b⟩ t 0 = (Y, c) := ⟨_, _, rfl⟩
 have s1 := small m rfl rfl keep
 have s2 := small ⟨m.id, ⟨m.st.l, m.st.h, m.st.b, S3⟩, m.b⟩ rfl rfl 0
 rw [hX] at s1
 rw [hY] at s2
 have hcase : (mirrorOk m t = false → X = m ∧ c = -1) := by
  intro h9
  unfold crash at hX
  rw [if_neg (by rw [h9]; simp)] at hX
  simp only [Prod.mk.injEq] at hX
  exact ⟨hX.1.symm, hX.2.symm⟩
 have hyes : mirrorOk m t = true → 0 ≤ c ∧ storeOk X.st = true ∧ X.st.l <+: m.st.l ∧ X.b = X.st.h ∧ mirrorOk ⟨m.id, ⟨m.st.l, m.st.h, m.st.b, S3⟩, m.b⟩ t = true ∧ X.st.l <+: Y.st.l := by
  intro h9
  have q := crashed14 (keep := keep) hb h9
  rw [hS, hX, hY] at q
  exact q
 refine ⟨X, c, S3, Y, c4, hX, hS, hS1, hS2, hY, s1.1, s1.2.1, s1.2.2, ?_, s2.1, s2.2.1, fun h9 => ⟨by rw [(hcase h9).1], (hcase h9).2⟩, fun h9 => ?_⟩
 ·
  intro s hs
  cases h9 : mirrorOk m t with
  | false => rw [(hcase h9).1] at hs; have := h.st.sz s hs; omega
  | true => have := h.st.sz s ((hyes h9).2.2.1.subset hs); omega
 ·
  obtain ⟨q1, q2, q3, q4, q5, q6⟩ := hyes h9
  exact ⟨q1, q2, q3, q4, q5, q6.length_le⟩
set_option maxRecDepth 1000000 in
set_option maxHeartbeats 16000000 in
theorem crashed (w : World) (v0 : Value) (xs0 : List Int) (h0 : Sl w v0 (bs xs0)) (y0 : Byt xs0) (m0 : xs0.length ≤ maxLen) (hG : Glob w) (hN : NoC w) {a0 a1 a2 a3 : Addr} (hF : Is.Four w a0 a1 a2 a3) :
  Calls Tryz.prog 5 #[v0] w fun e w' => e = .returned (.bool true) ∧ Below w.heap.size w w' := by
 have hs := h0
 have hby := y0
 obtain ⟨ao0, cap0, rfl, -, -, -⟩ := h0
 rw [Mem.bs_len] at hs ⊢
 clear m0 y0
 by_cases hbig : 1048576 < xs0.length
 ·
  have qb := Draw.big_yes w ao0 xs0.length cap0 hbig
  clear hG hN hF
  go_enter Tryz.func5, Tryz.ntmps5
  go_wp2_with fail
  refine qb.mono ?_
  rintro e w1 ⟨rfl, rfl⟩
  go_wp2
  go_ret
  exact ⟨rfl, Below.refl _ _⟩
 have qb := Draw.big_no w ao0 xs0.length cap0 hbig
 have qd : ∀ W, Below w.heap.size w W → _ := fun W hW => drawCrashMirror_any W _ xs0 (hs.later hW) hby (by omega)
 have HG : Hid (Glob w) := hG
 have HNC : Hid (NoC w) := hN
 have HF : Hid (Is.Four w a0 a1 a2 a3) := hF
 clear hF
 clear hbig hs hby hG hN
 have B0 : Hid (Below w.heap.size w w) := Below.refl _ _
 go_enter Tryz.func5, Tryz.ntmps5
 go_wp2_with fail
 refine qb.mono ?_
 rintro e W_ ⟨rfl, hW_⟩
 subst hW_
 clear qb
 go_wp2_with fail
 refine (qd w B0.out).mono ?_
 rintro e W1 ⟨m, t, keep, v_v, v_u, v_t, rfl, hA, ht1, ht9, htz, hk1, hk2, s_v, s_u, s_t, b1⟩
 obtain ⟨ao_v, cap_v, rfl, _⟩ := s_v.form
 obtain ⟨ao_u, cap_u, rfl, _⟩ := s_u.form
 obtain ⟨ao_t, cap_t, rfl, _⟩ := Sh.form s_t
 simp only [ss_len, bs_len] at *
 have z1 := b1.size
 have B1 := Ke.b B0 b1
 have f_v1 : Hid (Sl W1 (.slice ao_v m.st.l.length cap_v) (ss m.st.l)) := s_v
 have f_u1 : Hid (Sl W1 (.slice ao_u m.st.b.length cap_u) (bs m.st.b)) := s_u
 have f_t1 : Hid (Sh W1 (.slice ao_t t.length cap_t) t) := s_t
 clear s_v s_u s_t qd
 obtain ⟨X, c, S3, Y, c4, hX, hS, hS1, hS2, hY, x1, x2, x3, x4, y1, y2, z1, z2⟩ := crash_14 (t := t) (keep := keep) hA
 have HA : Hid (A14 m) := hA
 have HBY : Hid (Byt m.st.b) := hA.st.byt
 have HZ : Hid (∀ s ∈ m.st.l, s.size ≤ 10000000000) := fun s h9 => Nat.le_trans (hA.st.sz s h9) (by omega)
 have hll := hA.st.len
 have hbl := hA.st.bl
 have hhr := hA.st.hd
 have hgr := hA.b
 have hs1 := hA.st.lo
 have hs2 := hA.st.hi
 clear hA
 clear htz
 have HXB : Hid (Byt X.st.b) := x3
 have HXZ : Hid (∀ s ∈ X.st.l, s.size ≤ 10000000000) := fun s h9 => Nat.le_trans (x4 s h9) (by omega)
 have Z1 : Hid (mirrorOk m t = false → X.st.l = m.st.l ∧ c = -1) := z1
 have Z2 : Hid (mirrorOk m t = true → 0 ≤ c ∧ storeOk X.st = true ∧ X.st.l <+: m.st.l ∧ X.b = X.st.h ∧ mirrorOk ⟨m.id, ⟨m.st.l, m.st.h, m.st.b, S3⟩, m.b⟩ t = true ∧ X.st.l.length ≤ Y.st.l.length) := z2
 clear x3 x4 z1 z2
 obtain ⟨W2, HW2, b2, y2, hS2, r_m2⟩ := Ke.l1 W1 #[.int .i64 m.id, .slice ao_v m.st.l.length cap_v, .int .i64 m.st.h.n, .string m.st.h.r, .slice ao_u m.st.b.length cap_u, .int .i64 m.st.s, .int .i64 m.b.n, .string m.b.r] 32
 have z2 := b2.size
 have B2 := Ke.b B1 b2
 have c_m2 := Ke.c r_m2
 have f_v2 := Ke.h (Sl.later f_v1.out b2)
 have f_u2 := Ke.h (Sl.later f_u1.out b2)
 have f_t2 := Ke.h (Sh.later f_t1.out b2)
 clear f_v1 f_u1 f_t1
 have q1 : ∀ W v1 v2 v3, Below w.heap.size w W → Sl W v1 (ss m.st.l) → Sl W v2 (bs m.st.b) → Sh W v3 t → _ := fun W v1 v2 v3 hB h1 h2 h3 => crash_impl W v1 v2 v3 m t keep (HG.out.later hB) (NoC.later HNC.out hB) (by omega) (by omega) (HF.out.later hB) (by omega) (by omega) (by omega) (by omega) h1 h2 HBY.out h3 (by omega) (by omega) (by omega) HZ.out
 have q2 : ∀ W v1 v2 v3, Sl W v1 (ss m.st.l) → Sl W v2 (bs m.st.b) → Sh W v3 t → _ := fun W v1 v2 v3 h1 h2 h3 => crash_spec W v1 v2 v3 m t keep (by omega) (by omega) (by omega) (by omega) h1 h2 HBY.out h3 (by omega) (by omega) (by omega) HZ.out
 have q3 : ∀ W v1 v2 v3, Below w.heap.size w W → Sl W v1 (ss m.st.l) → Sl W v2 (bs m.st.b) → Sh W v3 t → _ := fun W v1 v2 v3 hB h1 h2 h3 => sync_impl W v1 v2 v3 m t (HG.out.later hB) (NoC.later HNC.out hB) (by omega) (by omega) h1 h2 HBY.out h3 (by omega) (by omega) (by omega) HZ.out
 have q4 : ∀ W v1 v2 v3, Below w.heap.size w W → Sl W v1 (ss m.st.l) → Sl W v2 (bs m.st.b) → Sh W v3 t → _ := fun W v1 v2 v3 hB h1 h2 h3 => mirrorok_impl W v1 v2 v3 m t (HG.out.later hB) (NoC.later HNC.out hB) (by omega) h1 h2 HBY.out h3 (by omega) (by omega) (by omega) HZ.out
 have q5 : ∀ W v1 v2 v3, Below w.heap.size w W → Sl W v1 (ss m.st.l) → Sl W v2 (bs m.st.b) → Sh W v3 t → _ := fun W v1 v2 v3 hB h1 h2 h3 => crash_impl W v1 v2 v3 (⟨m.id, ⟨m.st.l, m.st.h, m.st.b, S3⟩, m.b⟩ : Mr) t 0 (HG.out.later hB) (NoC.later HNC.out hB) (by simp only; omega) (by simp only; omega) (HF.out.later hB) (by simp only; omega) (by simp only; omega) (by omega) (by omega) h1 h2 HBY.out h3 (by simp only; omega) (by simp only; omega) (by omega) HZ.out
 have q6 : ∀ W v1 v2 v3, Below w.heap.size w W → Sl W v1 (ss m.st.l) → Sl W v2 (bs m.st.b) → Sh W v3 t → _ := fun W v1 v2 v3 hB h1 h2 h3 => mirrorok_impl W v1 v2 v3 (⟨m.id, ⟨m.st.l, m.st.h, m.st.b, S3⟩, m.b⟩ : Mr) t (HG.out.later hB) (NoC.later HNC.out hB) (by simp only; omega) h1 h2 HBY.out h3 (by simp only; omega) (by simp only; omega) (by omega) HZ.out
 have q7 : ∀ W v1 v2, Below w.heap.size w W → Sl W v1 (ss X.st.l) → Sl W v2 (bs X.st.b) → _ := fun W v1 v2 hB h1 h2 => storeok_impl W v1 v2 X.st (HG.out.later hB) (NoC.later HNC.out hB) h1 h2 HXB.out (by omega) (by omega) HXZ.out
 simp only [hX] at q1 q2
 simp only [hS] at q3
 simp only [hY] at q5
 clear hX hS hY
 go_wp2_with fail
 rw [HW2.out]
 refine (q1 W2 _ _ _ B2.out f_v2.out f_u2.out f_t2.out).mono ?_
 rintro e W3 ⟨v_x, v_xp, rfl, o9, o5, b3⟩
 obtain ⟨ao_x, L_x, cap_x, rfl, _, _⟩ := Mem.Own.form o9
 obtain ⟨ao_xp, L_xp, cap_xp, rfl, _, _⟩ := Mem.Own.form o5
 obtain rfl : L_x = X.st.l.length := by obtain ⟨a9, L9, c9, he, h1, h2⟩ := Mem.Own.form o9; injection he with _ he2 _; rw [ss_len] at h1 h2; omega
 obtain rfl : L_xp = X.st.b.length := by obtain ⟨a9, L9, c9, he, h1, h2⟩ := Mem.Own.form o5; injection he with _ he2 _; rw [bs_len] at h1 h2; omega
 have z3 := b3.size
 have B3 := Ke.b B2 b3
 have r_m3 := Ke.r r_m2 b3
 have c_m3 := Ke.c r_m3
 clear r_m2 c_m2
 have f_v3 := Ke.h (Sl.later f_v2.out b3)
 have f_u3 := Ke.h (Sl.later f_u2.out b3)
 have f_t3 := Ke.h (Sh.later f_t2.out b3)
 clear f_v2 f_u2 f_t2
 have f_x3 : Hid (Sl W3 (.slice ao_x X.st.l.length cap_x) (ss X.st.l)) := o9.sl
 have f_xp3 : Hid (Sl W3 (.slice ao_xp X.st.b.length cap_xp) (bs X.st.b)) := o5.sl
 clear o9 o5
 have a_m3 := Ke.a r_m3
 obtain ⟨W4, HW4, b4, y4, hS4, r_x4⟩ := Ke.l1 W3 #[.int .i64 X.id, .slice ao_x X.st.l.length cap_x, .int .i64 X.st.h.n, .string X.st.h.r, .slice ao_xp X.st.b.length cap_xp, .int .i64 X.st.s, .int .i64 X.b.n, .string X.b.r] 32
 have z4 := b4.size
 have B4 := Ke.b B3 b4
 have r_m4 := Ke.r r_m3 b4
 have c_m4 := Ke.c r_m4
 have c_x4 := Ke.c r_x4
 clear r_m3 c_m3
 have f_v4 := Ke.h (Sl.later f_v3.out b4)
 have f_u4 := Ke.h (Sl.later f_u3.out b4)
 have f_t4 := Ke.h (Sh.later f_t3.out b4)
 have f_x4 := Ke.h (Sl.later f_x3.out b4)
 have f_xp4 := Ke.h (Sl.later f_xp3.out b4)
 clear f_v3 f_u3 f_t3 f_x3 f_xp3
 go_wp2_with fail
 rw [HW4.out]
 clear a_m3
 refine (q2 W4 _ _ _ f_v4.out f_u4.out f_t4.out).mono ?_
 rintro e W5 ⟨v_z, v_zp, rfl, o9, o5, b5⟩
 obtain ⟨ao_z, L_z, cap_z, rfl, _, _⟩ := Mem.Own.form o9
 obtain ⟨ao_zp, L_zp, cap_zp, rfl, _, _⟩ := Mem.Own.form o5
 obtain rfl : L_z = X.st.l.length := by obtain ⟨a9, L9, c9, he, h1, h2⟩ := Mem.Own.form o9; injection he with _ he2 _; rw [ss_len] at h1 h2; omega
 obtain rfl : L_zp = X.st.b.length := by obtain ⟨a9, L9, c9, he, h1, h2⟩ := Mem.Own.form o5; injection he with _ he2 _; rw [bs_len] at h1 h2; omega
 have z5 := b5.size
 have B5 := Ke.b B4 b5
 have r_m5 := Ke.r r_m4 b5
 have r_x5 := Ke.r r_x4 b5
 have c_m5 := Ke.c r_m5
 have c_x5 := Ke.c r_x5
 clear r_m4 c_m4 r_x4 c_x4
 have f_v5 := Ke.h (Sl.later f_v4.out b5)
 have f_u5 := Ke.h (Sl.later f_u4.out b5)
 have f_t5 := Ke.h (Sh.later f_t4.out b5)
 have f_x5 := Ke.h (Sl.later f_x4.out b5)
 have f_xp5 := Ke.h (Sl.later f_xp4.out b5)
 clear f_v4 f_u4 f_t4 f_x4 f_xp4
 have f_z5 : Hid (Sl W5 (.slice ao_z X.st.l.length cap_z) (ss X.st.l)) := o9.sl
 have f_zp5 : Hid (Sl W5 (.slice ao_zp X.st.b.length cap_zp) (bs X.st.b)) := o5.sl
 clear o9 o5
 have a_m5 := Ke.a r_m5
 have a_x5 := Ke.a r_x5
 obtain ⟨W6, HW6, b6, y6, hS6, r_z6⟩ := Ke.l1 W5 #[.int .i64 X.id, .slice ao_z X.st.l.length cap_z, .int .i64 X.st.h.n, .string X.st.h.r, .slice ao_zp X.st.b.length cap_zp, .int .i64 X.st.s, .int .i64 X.b.n, .string X.b.r] 32
 have z6 := b6.size
 have B6 := Ke.b B5 b6
 have r_m6 := Ke.r r_m5 b6
 have r_x6 := Ke.r r_x5 b6
 have c_m6 := Ke.c r_m6
 have c_x6 := Ke.c r_x6
 have c_z6 := Ke.c r_z6
 clear r_m5 c_m5 r_x5 c_x5
 have f_v6 := Ke.h (Sl.later f_v5.out b6)
 have f_u6 := Ke.h (Sl.later f_u5.out b6)
 have f_t6 := Ke.h (Sh.later f_t5.out b6)
 have f_x6 := Ke.h (Sl.later f_x5.out b6)
 have f_xp6 := Ke.h (Sl.later f_xp5.out b6)
 have f_z6 := Ke.h (Sl.later f_z5.out b6)
 have f_zp6 := Ke.h (Sl.later f_zp5.out b6)
 clear f_v5 f_u5 f_t5 f_x5 f_xp5 f_z5 f_zp5
 have e1 : (c != c) = false := by simp
 go_wp2_with fail
 rw [HW6.out]
 clear a_m5 a_x5
 refine (q3 W6 _ _ _ B6.out f_v6.out f_u6.out f_t6.out).mono ?_
 rintro e W7 ⟨v_s, v_sp, rfl, o9, o5, b7⟩
 obtain ⟨ao_s, L_s, cap_s, rfl, _, _⟩ := Mem.Own.form o9
 obtain ⟨ao_sp, L_sp, cap_sp, rfl, _, _⟩ := Mem.Own.form o5
 obtain rfl : L_s = m.st.l.length := by obtain ⟨a9, L9, c9, he, h1, h2⟩ := Mem.Own.form o9; injection he with _ he2 _; rw [ss_len] at h1 h2; omega
 obtain rfl : L_sp = m.st.b.length := by obtain ⟨a9, L9, c9, he, h1, h2⟩ := Mem.Own.form o5; injection he with _ he2 _; rw [bs_len] at h1 h2; omega
 have z7 := b7.size
 have B7 := Ke.b B6 b7
 have r_m7 := Ke.r r_m6 b7
 have r_x7 := Ke.r r_x6 b7
 have r_z7 := Ke.r r_z6 b7
 have c_m7 := Ke.c r_m7
 have c_x7 := Ke.c r_x7
 have c_z7 := Ke.c r_z7
 clear r_m6 c_m6 r_x6 c_x6 r_z6 c_z6
 have f_v7 := Ke.h (Sl.later f_v6.out b7)
 have f_u7 := Ke.h (Sl.later f_u6.out b7)
 have f_t7 := Ke.h (Sh.later f_t6.out b7)
 have f_x7 := Ke.h (Sl.later f_x6.out b7)
 have f_xp7 := Ke.h (Sl.later f_xp6.out b7)
 have f_z7 := Ke.h (Sl.later f_z6.out b7)
 have f_zp7 := Ke.h (Sl.later f_zp6.out b7)
 clear f_v6 f_u6 f_t6 f_x6 f_xp6 f_z6 f_zp6
 have f_s7 : Hid (Sl W7 (.slice ao_s m.st.l.length cap_s) (ss m.st.l)) := o9.sl
 have f_sp7 : Hid (Sl W7 (.slice ao_sp m.st.b.length cap_sp) (bs m.st.b)) := o5.sl
 clear o9 o5
 have a_m7 := Ke.a r_m7
 have a_x7 := Ke.a r_x7
 have a_z7 := Ke.a r_z7
 obtain ⟨W8, HW8, b8, y8, hS8, r_s8⟩ := Ke.l1 W7 #[.int .i64 m.id, .slice ao_s m.st.l.length cap_s, .int .i64 m.st.h.n, .string m.st.h.r, .slice ao_sp m.st.b.length cap_sp, .int .i64 S3, .int .i64 m.b.n, .string m.b.r] 32
 have z8 := b8.size
 have B8 := Ke.b B7 b8
 have r_m8 := Ke.r r_m7 b8
 have r_x8 := Ke.r r_x7 b8
 have r_z8 := Ke.r r_z7 b8
 have c_m8 := Ke.c r_m8
 have c_x8 := Ke.c r_x8
 have c_z8 := Ke.c r_z8
 have c_s8 := Ke.c r_s8
 clear r_m7 c_m7 r_x7 c_x7 r_z7 c_z7
 have f_v8 := Ke.h (Sl.later f_v7.out b8)
 have f_u8 := Ke.h (Sl.later f_u7.out b8)
 have f_t8 := Ke.h (Sh.later f_t7.out b8)
 have f_x8 := Ke.h (Sl.later f_x7.out b8)
 have f_xp8 := Ke.h (Sl.later f_xp7.out b8)
 have f_z8 := Ke.h (Sl.later f_z7.out b8)
 have f_zp8 := Ke.h (Sl.later f_zp7.out b8)
 have f_s8 := Ke.h (Sl.later f_s7.out b8)
 have f_sp8 := Ke.h (Sl.later f_sp7.out b8)
 clear f_v7 f_u7 f_t7 f_x7 f_xp7 f_z7 f_zp7 f_s7 f_sp7
 clear r_z8 c_z8
 clear f_z8
 clear f_zp8
 clear q1 q2 q3
 by_cases hok : mirrorOk m t = true
 ·
  obtain ⟨p1, p2, p3, p4, p5, p6⟩ := Z2.out hok
  have hc0 : ¬ c < 0 := by omega
  simp only [p2] at q7
  simp only [p5] at q6
  have P3 : Hid (X.st.l <+: m.st.l) := p3
  clear p2 p3 p5 q4 hok Z1 Z2
  go_wp2_with fail
  rw [HW8.out]
  clear a_m7 a_x7 a_z7
  refine (q5 W8 _ _ _ B8.out f_s8.out f_sp8.out f_t8.out).mono ?_
  rintro e W9 ⟨v_y, v_yp, rfl, o9, o5, b9⟩
  obtain ⟨ao_y, L_y, cap_y, rfl, _, _⟩ := Mem.Own.form o9
  obtain ⟨ao_yp, L_yp, cap_yp, rfl, _, _⟩ := Mem.Own.form o5
  obtain rfl : L_y = Y.st.l.length := by obtain ⟨a9, L9, c9, he, h1, h2⟩ := Mem.Own.form o9; injection he with _ he2 _; rw [ss_len] at h1 h2; omega
  obtain rfl : L_yp = Y.st.b.length := by obtain ⟨a9, L9, c9, he, h1, h2⟩ := Mem.Own.form o5; injection he with _ he2 _; rw [bs_len] at h1 h2; omega
  have z9 := b9.size
  have B9 := Ke.b B8 b9
  have r_m9 := Ke.r r_m8 b9
  have r_x9 := Ke.r r_x8 b9
  have r_s9 := Ke.r r_s8 b9
  have c_m9 := Ke.c r_m9
  have c_x9 := Ke.c r_x9
  have c_s9 := Ke.c r_s9
  clear r_m8 c_m8 r_x8 c_x8 r_s8 c_s8
  have f_v9 := Ke.h (Sl.later f_v8.out b9)
  have f_u9 := Ke.h (Sl.later f_u8.out b9)
  have f_t9 := Ke.h (Sh.later f_t8.out b9)
  have f_x9 := Ke.h (Sl.later f_x8.out b9)
  have f_xp9 := Ke.h (Sl.later f_xp8.out b9)
  have f_s9 := Ke.h (Sl.later f_s8.out b9)
  have f_sp9 := Ke.h (Sl.later f_sp8.out b9)
  clear f_v8 f_u8 f_t8 f_x8 f_xp8 f_s8 f_sp8
  have f_y9 : Hid (Sl W9 (.slice ao_y Y.st.l.length cap_y) (ss Y.st.l)) := o9.sl
  have f_yp9 : Hid (Sl W9 (.slice ao_yp Y.st.b.length cap_yp) (bs Y.st.b)) := o5.sl
  clear o9 o5
  have a_m9 := Ke.a r_m9
  have a_x9 := Ke.a r_x9
  have a_s9 := Ke.a r_s9
  obtain ⟨W10, HW10, b10, y10, hS10, r_y10⟩ := Ke.l1 W9 #[.int .i64 Y.id, .slice ao_y Y.st.l.length cap_y, .int .i64 Y.st.h.n, .string Y.st.h.r, .slice ao_yp Y.st.b.length cap_yp, .int .i64 Y.st.s, .int .i64 Y.b.n, .string Y.b.r] 32
  have z10 := b10.size
  have B10 := Ke.b B9 b10
  have r_m10 := Ke.r r_m9 b10
  have r_x10 := Ke.r r_x9 b10
  have r_s10 := Ke.r r_s9 b10
  have c_m10 := Ke.c r_m10
  have c_x10 := Ke.c r_x10
  have c_s10 := Ke.c r_s10
  have c_y10 := Ke.c r_y10
  clear r_m9 c_m9 r_x9 c_x9 r_s9 c_s9
  have f_v10 := Ke.h (Sl.later f_v9.out b10)
  have f_u10 := Ke.h (Sl.later f_u9.out b10)
  have f_t10 := Ke.h (Sh.later f_t9.out b10)
  have f_x10 := Ke.h (Sl.later f_x9.out b10)
  have f_xp10 := Ke.h (Sl.later f_xp9.out b10)
  have f_s10 := Ke.h (Sl.later f_s9.out b10)
  have f_sp10 := Ke.h (Sl.later f_sp9.out b10)
  have f_y10 := Ke.h (Sl.later f_y9.out b10)
  have f_yp10 := Ke.h (Sl.later f_yp9.out b10)
  clear f_v9 f_u9 f_t9 f_x9 f_xp9 f_s9 f_sp9 f_y9 f_yp9
  go_wp2_with fail
  rw [HW10.out]
  clear a_m9 a_x9 a_s9
  refine (q7 W10 _ _ B10.out f_x10.out f_xp10.out).mono ?_
  rintro e W11 ⟨rfl, b11⟩
  have z11 := b11.size
  have B11 := Ke.b B10 b11
  have r_m11 := Ke.r r_m10 b11
  have r_x11 := Ke.r r_x10 b11
  have r_s11 := Ke.r r_s10 b11
  have r_y11 := Ke.r r_y10 b11
  have c_m11 := Ke.c r_m11
  have c_x11 := Ke.c r_x11
  have c_s11 := Ke.c r_s11
  have c_y11 := Ke.c r_y11
  clear r_m10 c_m10 r_x10 c_x10 r_s10 c_s10 r_y10 c_y10
  have f_v11 := Ke.h (Sl.later f_v10.out b11)
  have f_u11 := Ke.h (Sl.later f_u10.out b11)
  have f_t11 := Ke.h (Sh.later f_t10.out b11)
  have f_x11 := Ke.h (Sl.later f_x10.out b11)
  have f_xp11 := Ke.h (Sl.later f_xp10.out b11)
  have f_s11 := Ke.h (Sl.later f_s10.out b11)
  have f_sp11 := Ke.h (Sl.later f_sp10.out b11)
  have f_y11 := Ke.h (Sl.later f_y10.out b11)
  have f_yp11 := Ke.h (Sl.later f_yp10.out b11)
  clear f_v10 f_u10 f_t10 f_x10 f_xp10 f_s10 f_sp10 f_y10 f_yp10
  go_wp2_with fail
  refine (begins14 W11 _ _ X.st.l m.st.l f_x11.out f_v11.out P3.out (by omega)).mono ?_
  rintro e W12 ⟨rfl, b12⟩
  have z12 := b12.size
  have B12 := Ke.b B11 b12
  have r_m12 := Ke.r r_m11 b12
  have r_x12 := Ke.r r_x11 b12
  have r_s12 := Ke.r r_s11 b12
  have r_y12 := Ke.r r_y11 b12
  have c_m12 := Ke.c r_m12
  have c_x12 := Ke.c r_x12
  have c_s12 := Ke.c r_s12
  have c_y12 := Ke.c r_y12
  clear r_m11 c_m11 r_x11 c_x11 r_s11 c_s11 r_y11 c_y11
  have f_v12 := Ke.h (Sl.later f_v11.out b12)
  have f_u12 := Ke.h (Sl.later f_u11.out b12)
  have f_t12 := Ke.h (Sh.later f_t11.out b12)
  have f_x12 := Ke.h (Sl.later f_x11.out b12)
  have f_xp12 := Ke.h (Sl.later f_xp11.out b12)
  have f_s12 := Ke.h (Sl.later f_s11.out b12)
  have f_sp12 := Ke.h (Sl.later f_sp11.out b12)
  have f_y12 := Ke.h (Sl.later f_y11.out b12)
  have f_yp12 := Ke.h (Sl.later f_yp11.out b12)
  clear f_v11 f_u11 f_t11 f_x11 f_xp11 f_s11 f_sp11 f_y11 f_yp11
  have ee : ∀ W, _ := fun W => eqlH W X.st.h X.st.h
  have en : ∀ W, _ := fun W => neqH W X.st.h X.st.h
  have hhh : eqH X.st.h X.st.h = true := (eqH_iff _ _).2 rfl
  simp only [hhh, Bool.not_true] at ee en
  have gg : ∀ W op y z xs ys, _ := fun W op y z xs ys => grdH W op y z xs ys
  clear hhh
  have d6 : (X.st.l.length : Int) ≤ (Y.st.l.length : Int) := by omega
  rw [p4] at r_x12
  clear c_x12
  have c_x12 := Ke.c r_x12
  go_wp2_with fail
  refine (q6 W12 _ _ _ B12.out f_s12.out f_sp12.out f_t12.out).mono ?_
  rintro e W13 ⟨rfl, b13⟩
  have z13 := b13.size
  have B13 := Ke.b B12 b13
  have r_m13 := Ke.r r_m12 b13
  have r_x13 := Ke.r r_x12 b13
  have r_s13 := Ke.r r_s12 b13
  have r_y13 := Ke.r r_y12 b13
  have c_m13 := Ke.c r_m13
  have c_x13 := Ke.c r_x13
  have c_s13 := Ke.c r_s13
  have c_y13 := Ke.c r_y13
  clear r_m12 c_m12 r_x12 c_x12 r_s12 c_s12 r_y12 c_y12
  have f_v13 := Ke.h (Sl.later f_v12.out b13)
  have f_u13 := Ke.h (Sl.later f_u12.out b13)
  have f_t13 := Ke.h (Sh.later f_t12.out b13)
  have f_x13 := Ke.h (Sl.later f_x12.out b13)
  have f_xp13 := Ke.h (Sl.later f_xp12.out b13)
  have f_s13 := Ke.h (Sl.later f_s12.out b13)
  have f_sp13 := Ke.h (Sl.later f_sp12.out b13)
  have f_y13 := Ke.h (Sl.later f_y12.out b13)
  have f_yp13 := Ke.h (Sl.later f_yp12.out b13)
  clear f_v12 f_u12 f_t12 f_x12 f_xp12 f_s12 f_sp12 f_y12 f_yp12
  go_wp2
  go_ret
  exact ⟨rfl, B13.out⟩
 ·
  have hok : mirrorOk m t = false := by simpa using hok
  obtain ⟨p1, p2⟩ := Z1.out hok
  have hc0 : c < 0 := by omega
  simp only [hok] at q4
  have P1 : Hid (X.st.l = m.st.l) := p1
  clear p1 p2 hok Z1 Z2 q5 q6 q7
  go_wp2_with fail
  rw [HW8.out]
  clear a_m7 a_x7 a_z7
  refine (q4 W8 _ _ _ B8.out f_v8.out f_u8.out f_t8.out).mono ?_
  rintro e W9 ⟨rfl, b9⟩
  have z9 := b9.size
  have B9 := Ke.b B8 b9
  have r_m9 := Ke.r r_m8 b9
  have r_x9 := Ke.r r_x8 b9
  have r_s9 := Ke.r r_s8 b9
  have c_m9 := Ke.c r_m9
  have c_x9 := Ke.c r_x9
  have c_s9 := Ke.c r_s9
  clear r_m8 c_m8 r_x8 c_x8 r_s8 c_s8
  have f_v9 := Ke.h (Sl.later f_v8.out b9)
  have f_u9 := Ke.h (Sl.later f_u8.out b9)
  have f_t9 := Ke.h (Sh.later f_t8.out b9)
  have f_x9 := Ke.h (Sl.later f_x8.out b9)
  have f_xp9 := Ke.h (Sl.later f_xp8.out b9)
  have f_s9 := Ke.h (Sl.later f_s8.out b9)
  have f_sp9 := Ke.h (Sl.later f_sp8.out b9)
  clear f_v8 f_u8 f_t8 f_x8 f_xp8 f_s8 f_sp8
  go_wp2_with fail
  refine (Draw.same_true W9 _ _ m.st.l (by have h9 := f_x9.out; rw [P1.out] at h9 ⊢; exact h9) f_v9.out (by omega)).mono ?_
  rintro e W10 ⟨rfl, h10, _⟩
  have b10 : Below W9.heap.size W9 W10 := h10 _
  clear h10
  have z10 := b10.size
  have B10 := Ke.b B9 b10
  have r_m10 := Ke.r r_m9 b10
  have r_x10 := Ke.r r_x9 b10
  have r_s10 := Ke.r r_s9 b10
  have c_m10 := Ke.c r_m10
  have c_x10 := Ke.c r_x10
  have c_s10 := Ke.c r_s10
  clear r_m9 c_m9 r_x9 c_x9 r_s9 c_s9
  have f_v10 := Ke.h (Sl.later f_v9.out b10)
  have f_u10 := Ke.h (Sl.later f_u9.out b10)
  have f_t10 := Ke.h (Sh.later f_t9.out b10)
  have f_x10 := Ke.h (Sl.later f_x9.out b10)
  have f_xp10 := Ke.h (Sl.later f_xp9.out b10)
  have f_s10 := Ke.h (Sl.later f_s9.out b10)
  have f_sp10 := Ke.h (Sl.later f_sp9.out b10)
  clear f_v9 f_u9 f_t9 f_x9 f_xp9 f_s9 f_sp9
  go_wp2
  go_ret
  exact ⟨rfl, B10.out⟩
end Go.Proofs.YtchonoonclllbaaGreatDoor.Mi
namespace Go.Proofs.YtchonoonclllbaaGreatDoor.Is
open Go.RowKit Go.Extern.Stop Go.Stop Go.Extern
set_option linter.unusedVariables false
set_option linter.unusedSimpArgs false
theorem laid_one {P : Program} {n0 nm : String} {text0 : List UInt8} {r : List (String × DataW Unit)} {W : World} {g0 : Nat} {ti tp te ts : TypeId} {ms : Array (String × TypeId)} {f : Field}
  (h : laidMet P ((n0, .iface nm (.ptr (.agg [.lit (.string text0)]))) :: r) W)
  (hg0 : P.globalNamed n0 = some g0) (ht0 : (P.globals[g0]?).map (·.type) = some ti)
  (hi : P.underlying ti = some (.interface ms)) (hrow : ∀ u, P.typeName? 3 u = some nm → u = tp)
  (hp : P.underlying tp = some (.pointer te)) (he : P.underlying te = some (.struct #[f])) (hft : f.type = ts) (hfo : f.offset = 0) (hs : P.underlying ts = some .string) (hc : P.cellsOf te = 1) (hcs : P.cellsOf ts = 1) :
  ∃ (a0 : Addr) (c0 : Array Value) (t0 : TypeId), W.var? P n0 = some #[.iface tp (.pointer (some a0))] ∧ W.heap[a0.block]? = some (.cells c0 t0 (0, 0)) := by
 obtain ⟨ps, ⟨g0', t0', cs0, f0, p0, q0, hg0', ht0', hv0, hd0, _, e0⟩, hnd, hrows⟩ := h
 obtain rfl := Option.some.inj (hg0.symm.trans hg0')
 obtain rfl := Option.some.inj (ht0.symm.trans ht0')
 subst e0
 obtain ⟨l0⟩ := cs0
 have ok0 : ∀ u v, l0 = [.iface u v] → Value.okWide P W .any 0 u v := fun u v e => by
  subst e
  exact (hrows g0 0 (by simp [MemPlace.row])).2 u v (by simpa using World.var?_cell hg0' hv0 0)
 obtain ⟨a0, s0, rfl, hc0, hs0, hz0, rfl⟩ := errorString_of_trod hi hrow hp he hft hfo hs hc hcs hd0 ok0
 obtain ⟨c0, t0, hb0⟩ := (hrows a0.block a0.off (by simp [MemPlace.row])).1
 exact ⟨a0, c0, t0, hv0, hb0⟩
theorem one {n0 : String} {x0 : List UInt8} {g0 : Nat} {W : World} (h : laidMet Tryz.prog [(n0, lay x0)] W)
  (hg0 : Tryz.prog.globalNamed n0 = some g0) (ht0 : (Tryz.prog.globals[g0]?).map (·.type) = some 173) : ∃ a0 : Addr, At W g0 a0 := by
 obtain ⟨a0, c0, t0, hv0, hb0⟩ := laid_one h hg0 ht0 Tryz.underlying173 rowE Tryz.underlying238 Tryz.underlying262 rfl rfl Tryz.underlying9 cellsE cells9
 exact ⟨a0, by simpa using World.var?_cell hg0 hv0 0, c0, t0, hb0⟩
end Go.Proofs.YtchonoonclllbaaGreatDoor.Is
