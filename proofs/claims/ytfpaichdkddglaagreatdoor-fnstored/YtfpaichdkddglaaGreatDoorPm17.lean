/- Texts in one: SrS. -/
import Derived.Test.YtfpaichdkddglaaGreatDoorPm16
import Derived.Deep.DeepCutAuto
namespace Go.Proofs.YtfpaichdkddglaaGreatDoor.Sr
open Go.RowKit Go.Proofs.YtfpaichdkddglaaGreatDoor.Mem Go.Proofs.YtfpaichdkddglaaGreatDoor.Laws Go.Proofs.YtfpaichdkddglaaGreatDoor.Bytes Go.Proofs.YtfpaichdkddglaaGreatDoor.Sha Go.Proofs.YtfpaichdkddglaaGreatDoor.Tr Go.Proofs.YtfpaichdkddglaaGreatDoor.Draw Go.Proofs.YtfpaichdkddglaaGreatDoor.He Go.Proofs.YtfpaichdkddglaaGreatDoor.Lg
set_option linter.unusedVariables false
set_option linter.unusedSimpArgs false
set_option maxRecDepth 1000000 in
set_option maxHeartbeats 16000000 in
theorem drawCommit_any (w : World) (vb : Value) (xs : List Int) (hs : Sl w vb (bs xs)) (hby : Byt xs) (hx : xs.length ≤ 140737488355328) :
  Calls Tryz.prog 16 #[vb] w fun e w' => ∃ (st : Sto) (t : List Hd) (h : Hd) (x : List ByteArray) (v u vt vx : Value), e = .returned (.tuple #[.agg #[v, .int .i64 st.h.n, .string st.h.r, u, .int .i64 st.s], vt, .agg #[.int .i64 h.n, .string h.r], vx]) ∧ Ast st ∧ t.length ≤ 10 ∧ (∀ y ∈ t, y.r.size ≤ 32) ∧ h.r.size ≤ 32 ∧ x.length ≤ 10 ∧ (∀ s ∈ x, s.size ≤ 4) ∧ Sl w' v (ss st.l) ∧ Sl w' u (bs st.b) ∧ Sh w' vt t ∧ Sl w' vx (ss x) ∧ Below w.heap.size w w' := by
 have HS : Hid (Sl w vb (bs xs)) := hs
 obtain ⟨aob, capb, rfl, hcb⟩ := hs.form
 clear hs
 have B0 : Hid (Below w.heap.size w w) := Below.refl _ _
 obtain ⟨i9, hi9, hz9a, hz9b, hz9c⟩ := info_parts info9t
 obtain ⟨W1, HW1, b1, y1, hS1, r_res1, r_rh1⟩ : ∃ X, Hid (((w.alloc (.cells #[.slice none 0 0, .int .i64 0, .string ⟨#[]⟩, .slice none 0 0, .int .i64 0] 37)).alloc (.cells #[.int .i64 0, .string ⟨#[]⟩] 28)) = X) ∧ Below w.heap.size w X ∧ w.heap.size + 2 ≤ X.heap.size ∧ Hid (X.heap.size = w.heap.size + 1 + 1) ∧ Hid (X.heap[w.heap.size]? = some (.cells #[.slice none 0 0, .int .i64 0, .string ⟨#[]⟩, .slice none 0 0, .int .i64 0] 37 (0, 0))) ∧ Hid (X.heap[w.heap.size + 1]? = some (.cells #[.int .i64 0, .string ⟨#[]⟩] 28 (0, 0))) := ⟨_, rfl, (((Below.refl _ _).alloc (Nat.le_refl _) _).alloc (by simp) _), by simp, by show _ = _; simp, (by show _ = _; exact alloc_nth2_0 w _ _), (by show _ = _; exact alloc_nth2_1 w _ _)⟩
 have B1 : Hid (Below w.heap.size w W1) := B0.out.trans (b1.mono B0.out.size)
 go_enter Tryz.func16, Tryz.ntmps16
 go_wp2_with fail
 rw [HW1.out]
 refine (new_any W1 _ xs (HS.out.later B1.out) hby hx).mono ?_
 rintro e W2 ⟨rfl, d2⟩
 have hcg : W1.heap.size < W2.heap.size := d2.cur.lt
 have HSW : Hid (Sl W1 (.slice aob (bs xs).length capb) (bs xs)) := (HS.out.later B1.out)
 have cu2 : Hid (Cur W2 (W1.heap.size) (.slice aob (bs xs).length capb) xs.length) := d2.cur
 have bw2 : Hid (Below W1.heap.size W1 W2) := d2.below
 have r_res2 : Hid (W2.heap[w.heap.size]? = some (.cells #[.slice none 0 0, .int .i64 0, .string ⟨#[]⟩, .slice none 0 0, .int .i64 0] 37 (0, 0))) := drawn_row r_res1.out d2 (by omega)
 have r_rh2 : Hid (W2.heap[w.heap.size + 1]? = some (.cells #[.int .i64 0, .string ⟨#[]⟩] 28 (0, 0))) := drawn_row r_rh1.out d2 (by omega)
 clear r_res1 r_rh1
 clear d2
 go_wp2_with fail
 refine (draw12 W1 W2 (W1.heap.size) _ xs HSW.out hby hx bw2.out (Nat.le_refl _) cu2.out).mono ?_
 rintro e W3 ⟨st, all, t, v_v, v_u, v_a, v_t, rfl, hD, hA1, hA9, hAz, ht1, ht9, htz, o_v3, o_u3, o_a3, o_t3, d3⟩
 have z3 : W2.heap.size ≤ W3.heap.size := d3.apart.size
 have B3 : Hid (Below w.heap.size w W3) := B1.out.trans (d3.below.mono B1.out.size)
 have cu3 : Hid (Cur W3 (W1.heap.size) (.slice aob (bs xs).length capb) xs.length) := d3.cur
 have bw3 : Hid (Below W1.heap.size W1 W3) := d3.below
 have r_res3 : Hid (W3.heap[w.heap.size]? = some (.cells #[.slice none 0 0, .int .i64 0, .string ⟨#[]⟩, .slice none 0 0, .int .i64 0] 37 (0, 0))) := drawn_row r_res2.out d3 (by omega)
 have r_rh3 : Hid (W3.heap[w.heap.size + 1]? = some (.cells #[.int .i64 0, .string ⟨#[]⟩] 28 (0, 0))) := drawn_row r_rh2.out d3 (by omega)
 clear r_res2 r_rh2
 clear cu2 bw2 d3
 obtain ⟨ao_v, L_v, cap_v, rfl, _, _⟩ := Mem.Own.form o_v3
 have o_v3 : Hid (Own W3 W2.heap.size W3.heap.size 9 (.slice ao_v L_v cap_v) (ss st.l)) := o_v3
 obtain ⟨ao_u, L_u, cap_u, rfl, _, _⟩ := Mem.Own.form o_u3
 have o_u3 : Hid (Own W3 W2.heap.size W3.heap.size 5 (.slice ao_u L_u cap_u) (bs st.b)) := o_u3
 obtain ⟨ao_a, L_a, cap_a, rfl, _, _⟩ := Mem.Own.form o_a3
 have o_a3 : Hid (Own W3 W2.heap.size W3.heap.size 9 (.slice ao_a L_a cap_a) (ss all)) := o_a3
 obtain rfl : L_v = st.l.length := by obtain ⟨a9, L9, c9, he, h1, h2⟩ := Mem.Own.form o_v3.out; injection he with _ he2 _; rw [ss_len] at h1 h2; omega
 obtain rfl : L_a = all.length := by obtain ⟨a9, L9, c9, he, h1, h2⟩ := Mem.Own.form o_a3.out; injection he with _ he2 _; rw [ss_len] at h1 h2; omega
 obtain ⟨ga, rfl, hga1, hga2, curA, hcurA, _⟩ := Own.blockG o_a3.out (by omega)
 clear hcurA
 have hcap : all.length ≤ cap_a := by obtain ⟨a9, c9, he, h1, _⟩ := o_a3.out.sl; injection he with _ he2 he3; rw [ss_len] at h1; omega
 obtain ⟨ao_t, cap_t, rfl, _⟩ := (Oh.sh o_t3).form
 have f_t3 : Hid (Oht W3 W2.heap.size W3.heap.size (.slice ao_t t.length cap_t) t) := ⟨o_t3, Nat.le_refl _⟩
 clear o_t3
 have HA : Hid (Ast st) := Dst.any hD hA9
 have hln := hD.len
 clear hD
 obtain ⟨W4, HW4, b4, y4, hS4, r_x4⟩ : ∃ X, Hid ((W3.alloc (.cells #[.slice ao_v st.l.length cap_v, .int .i64 st.h.n, .string st.h.r, .slice ao_u L_u cap_u, .int .i64 st.s] 37)) = X) ∧ Below W3.heap.size W3 X ∧ W3.heap.size + 1 ≤ X.heap.size ∧ Hid (X.heap.size = W3.heap.size + 1) ∧ Hid (X.heap[W3.heap.size]? = some (.cells #[.slice ao_v st.l.length cap_v, .int .i64 st.h.n, .string st.h.r, .slice ao_u L_u cap_u, .int .i64 st.s] 37 (0, 0))) := ⟨_, rfl, ((Below.refl _ _).alloc (Nat.le_refl _) _), by simp, by show _ = _; simp, (by show _ = _; exact alloc_nth1_0 W3 _)⟩
 have z4 : W3.heap.size ≤ W4.heap.size := b4.size
 have B4 : Hid (Below w.heap.size w W4) := B3.out.trans (b4.mono B3.out.size)
 have r_res4 : Hid (W4.heap[w.heap.size]? = some (.cells #[.slice none 0 0, .int .i64 0, .string ⟨#[]⟩, .slice none 0 0, .int .i64 0] 37 (0, 0))) := rowKeep r_res3.out b4
 have r_rh4 : Hid (W4.heap[w.heap.size + 1]? = some (.cells #[.int .i64 0, .string ⟨#[]⟩] 28 (0, 0))) := rowKeep r_rh3.out b4
 have o_v4 : Hid (Own W4 (W2.heap.size) (W3.heap.size) 9 (.slice ao_v st.l.length cap_v) (ss st.l)) := Own.later o_v3.out b4 (by omega)
 have o_u4 : Hid (Own W4 (W2.heap.size) (W3.heap.size) 5 (.slice ao_u L_u cap_u) (bs st.b)) := Own.later o_u3.out b4 (by omega)
 have o_a4 : Hid (Own W4 (W2.heap.size) (W3.heap.size) 9 (.slice (some ⟨ga, 0, none⟩) all.length cap_a) (ss all)) := Own.later o_a3.out b4 (by omega)
 clear r_res3 r_rh3 o_v3 o_u3 o_a3
 have f_t4 : Hid (Oht W4 W2.heap.size W3.heap.size (.slice ao_t t.length cap_t) t) := Oht.later f_t3.out b4
 clear f_t3
 have cu4 : Hid (Cur W4 (W1.heap.size) (.slice aob (bs xs).length capb) xs.length) := cu3.out.keep b4
 have bw4 : Hid (Below W1.heap.size W1 W4) := bw3.out.trans (b4.mono bw3.out.size)
 clear cu3 bw3
 go_upto_if 30 with fail
 rw [HW4.out]
 go_cut [11] (fun s11 wx => ∃ (m : Nat), s11 = .int .i64 (m : Int) ∧ st.l.length ≤ m ∧ m ≤ all.length ∧ Below w.heap.size w wx ∧ W4.heap.size ≤ wx.heap.size ∧ Cur wx (W1.heap.size) (.slice aob (bs xs).length capb) xs.length ∧ Below W1.heap.size W1 wx ∧ wx.heap[w.heap.size]? = some (.cells #[.slice none 0 0, .int .i64 0, .string ⟨#[]⟩, .slice none 0 0, .int .i64 0] 37 (0, 0)) ∧ wx.heap[w.heap.size + 1]? = some (.cells #[.int .i64 0, .string ⟨#[]⟩] 28 (0, 0)) ∧ wx.heap[W3.heap.size]? = some (.cells #[.slice ao_v st.l.length cap_v, .int .i64 st.h.n, .string st.h.r, .slice ao_u L_u cap_u, .int .i64 st.s] 37 (0, 0)) ∧ Own wx (W2.heap.size) (W3.heap.size) 9 (.slice ao_v st.l.length cap_v) (ss st.l) ∧ Own wx (W2.heap.size) (W3.heap.size) 5 (.slice ao_u L_u cap_u) (bs st.b) ∧ Own wx (W2.heap.size) (W3.heap.size) 9 (.slice (some ⟨ga, 0, none⟩) all.length cap_a) (ss all) ∧ Oht wx W2.heap.size W3.heap.size (.slice ao_t t.length cap_t) t)
 case first =>
  by_cases hlt : st.l.length < all.length
  ·
   have w1 : IntKind.i64.wrap ((st.l.length : Int) + 1) = (st.l.length : Int) + 1 := by rw [IntKind.wrap_i64]; omega
   have w2 : IntKind.i64.wrap ((all.length : Int) - (st.l.length : Int)) = (all.length : Int) - (st.l.length : Int) := by rw [IntKind.wrap_i64]; omega
   go_wp2_with fail
   refine (below_any W1 W4 (W1.heap.size) _ xs ((all.length : Int) - (st.l.length : Int)) (by omega) (by omega) HSW.out hby hx bw4.out (Nat.le_refl _) cu4.out).mono ?_
   rintro e W5 ⟨y, rfl, hy0, hy1, d5⟩
   have z5 : W4.heap.size ≤ W5.heap.size := d5.apart.size
   have B5 : Hid (Below w.heap.size w W5) := B1.out.trans (d5.below.mono B1.out.size)
   have cu5 : Hid (Cur W5 (W1.heap.size) (.slice aob (bs xs).length capb) xs.length) := d5.cur
   have bw5 : Hid (Below W1.heap.size W1 W5) := d5.below
   have r_res5 : Hid (W5.heap[w.heap.size]? = some (.cells #[.slice none 0 0, .int .i64 0, .string ⟨#[]⟩, .slice none 0 0, .int .i64 0] 37 (0, 0))) := drawn_row r_res4.out d5 (by omega)
   have r_rh5 : Hid (W5.heap[w.heap.size + 1]? = some (.cells #[.int .i64 0, .string ⟨#[]⟩] 28 (0, 0))) := drawn_row r_rh4.out d5 (by omega)
   have r_x5 : Hid (W5.heap[W3.heap.size]? = some (.cells #[.slice ao_v st.l.length cap_v, .int .i64 st.h.n, .string st.h.r, .slice ao_u L_u cap_u, .int .i64 st.s] 37 (0, 0))) := drawn_row r_x4.out d5 (by omega)
   have o_v5 : Hid (Own W5 (W2.heap.size) (W3.heap.size) 9 (.slice ao_v st.l.length cap_v) (ss st.l)) := Own.drawn o_v4.out d5 (by omega) (by omega)
   have o_u5 : Hid (Own W5 (W2.heap.size) (W3.heap.size) 5 (.slice ao_u L_u cap_u) (bs st.b)) := Own.drawn o_u4.out d5 (by omega) (by omega)
   have o_a5 : Hid (Own W5 (W2.heap.size) (W3.heap.size) 9 (.slice (some ⟨ga, 0, none⟩) all.length cap_a) (ss all)) := Own.drawn o_a4.out d5 (by omega) (by omega)
   have f_t5 : Hid (Oht W5 W2.heap.size W3.heap.size (.slice ao_t t.length cap_t) t) := Oht.drawn f_t4.out d5 (by omega)
   clear r_res4 r_rh4 r_x4 o_v4 o_u4 o_a4
   clear cu4 bw4 d5 f_t4
   obtain ⟨m, hm1, hm2, hm3⟩ : ∃ m : Nat, (st.l.length : Int) + 1 + y = (m : Int) ∧ st.l.length ≤ m ∧ m ≤ all.length := ⟨((st.l.length : Int) + 1 + y).toNat, by omega, by omega, by omega⟩
   have w3 : IntKind.i64.wrap ((st.l.length : Int) + 1 + y) = (m : Int) := by rw [hm1, IntKind.wrap_i64]; omega
   go_wp2_with fail
   go_meet
   exact ⟨m, rfl, hm2, hm3, B5.out, by omega, cu5.out, bw5.out, r_res5.out, r_rh5.out, r_x5.out, o_v5.out, o_u5.out, o_a5.out, f_t5.out⟩
  ·
   have hlt2 : ¬ (st.l.length : Int) < (all.length : Int) := by omega
   go_wp2_with fail
   go_meet
   exact ⟨all.length, rfl, by omega, by omega, B4.out, by omega, cu4.out, bw4.out, r_res4.out, r_rh4.out, r_x4.out, o_v4.out, o_u4.out, o_a4.out, f_t4.out⟩
 case rest =>
 obtain ⟨m, rfl, hm2, hm3, B5, z5, cu5, bw5, r_res5, r_rh5, r_x5, o_v5, o_u5, o_a5, f_t5⟩ := hcut
 revert B5 z5 cu5 bw5 r_res5 r_rh5 r_x5 o_v5 o_u5 o_a5 f_t5
 generalize wc = W5
 intro B5 z5 cu5 bw5 r_res5 r_rh5 r_x5 o_v5 o_u5 o_a5 f_t5
 have B5 : Hid (Below w.heap.size w W5) := B5
 have cu5 : Hid (Cur W5 (W1.heap.size) (.slice aob (bs xs).length capb) xs.length) := cu5
 have bw5 : Hid (Below W1.heap.size W1 W5) := bw5
 have r_res5 : Hid (W5.heap[w.heap.size]? = some (.cells #[.slice none 0 0, .int .i64 0, .string ⟨#[]⟩, .slice none 0 0, .int .i64 0] 37 (0, 0))) := r_res5
 have r_rh5 : Hid (W5.heap[w.heap.size + 1]? = some (.cells #[.int .i64 0, .string ⟨#[]⟩] 28 (0, 0))) := r_rh5
 have r_x5 : Hid (W5.heap[W3.heap.size]? = some (.cells #[.slice ao_v st.l.length cap_v, .int .i64 st.h.n, .string st.h.r, .slice ao_u L_u cap_u, .int .i64 st.s] 37 (0, 0))) := r_x5
 have o_v5 : Hid (Own W5 (W2.heap.size) (W3.heap.size) 9 (.slice ao_v st.l.length cap_v) (ss st.l)) := o_v5
 have o_u5 : Hid (Own W5 (W2.heap.size) (W3.heap.size) 5 (.slice ao_u L_u cap_u) (bs st.b)) := o_u5
 have o_a5 : Hid (Own W5 (W2.heap.size) (W3.heap.size) 9 (.slice (some ⟨ga, 0, none⟩) all.length cap_a) (ss all)) := o_a5
 have f_t5 : Hid (Oht W5 W2.heap.size W3.heap.size (.slice ao_t t.length cap_t) t) := f_t5
 clear r_res4 r_rh4 r_x4 o_v4 o_u4 o_a4 f_t4 cu4 bw4
 obtain ⟨M2, hM2⟩ : ∃ M, headOf (all.take m) = M := ⟨_, rfl⟩
 have hM3 := headOf_size (all.take m)
 rw [hM2] at hM3
 have q1 : ∀ W v1, Sl W v1 (ss (all.take m)) → _ := fun W v1 h1 => headOf_spec W v1 (all.take m) h1 (by rw [List.length_take]; omega) (fun s h9 => Nat.le_trans (hAz s (List.mem_of_mem_take h9)) (by omega))
 simp only [hM2] at q1
 clear hM2
 have HF : Hid (∀ W, Sl W (.slice (some ⟨ga, 0, none⟩) all.length cap_a) (ss all) → Sl W (.slice (some ⟨ga, 0, none⟩) m cap_a) (ss (all.take m))) := by
  intro W h9
  have h8 := Sl.front h9 m (by rw [ss_len]; omega)
  have e8 : ss (all.take m) = (ss all).take m := by { unfold ss; rw [List.map_take] }
  rw [e8]; exact h8
 have b1 : (m : Int) ≤ (cap_a : Int) := by omega
 have b2 : (st.l.length : Int) ≤ (m : Int) := by omega
 have b3 : (0 : Int) ≤ (m : Int) := by omega
 go_wp2_with fail
 refine (q1 W5 _ (HF.out _ o_a5.out.sl)).mono ?_
 rintro e W6 ⟨rfl, b6⟩
 have z6 : W5.heap.size ≤ W6.heap.size := b6.size
 have B6 : Hid (Below w.heap.size w W6) := B5.out.trans (b6.mono B5.out.size)
 have r_res6 : Hid (W6.heap[w.heap.size]? = some (.cells #[.slice none 0 0, .int .i64 0, .string ⟨#[]⟩, .slice none 0 0, .int .i64 0] 37 (0, 0))) := rowKeep r_res5.out b6
 have r_rh6 : Hid (W6.heap[w.heap.size + 1]? = some (.cells #[.int .i64 0, .string ⟨#[]⟩] 28 (0, 0))) := rowKeep r_rh5.out b6
 have r_x6 : Hid (W6.heap[W3.heap.size]? = some (.cells #[.slice ao_v st.l.length cap_v, .int .i64 st.h.n, .string st.h.r, .slice ao_u L_u cap_u, .int .i64 st.s] 37 (0, 0))) := rowKeep r_x5.out b6
 have o_v6 : Hid (Own W6 (W2.heap.size) (W3.heap.size) 9 (.slice ao_v st.l.length cap_v) (ss st.l)) := Own.later o_v5.out b6 (by omega)
 have o_u6 : Hid (Own W6 (W2.heap.size) (W3.heap.size) 5 (.slice ao_u L_u cap_u) (bs st.b)) := Own.later o_u5.out b6 (by omega)
 have o_a6 : Hid (Own W6 (W2.heap.size) (W3.heap.size) 9 (.slice (some ⟨ga, 0, none⟩) all.length cap_a) (ss all)) := Own.later o_a5.out b6 (by omega)
 clear r_res5 r_rh5 r_x5 o_v5 o_u5 o_a5
 have f_t6 : Hid (Oht W6 W2.heap.size W3.heap.size (.slice ao_t t.length cap_t) t) := Oht.later f_t5.out b6
 clear f_t5
 have cu6 : Hid (Cur W6 (W1.heap.size) (.slice aob (bs xs).length capb) xs.length) := cu5.out.keep b6
 have bw6 : Hid (Below W1.heap.size W1 W6) := bw5.out.trans (b6.mono bw5.out.size)
 clear cu5 bw5
 clear HF q1
 obtain ⟨W7, HW7, b7, y7, hS7, r_h7⟩ : ∃ X, Hid ((W6.alloc (.cells #[.int .i64 M2.n, .string M2.r] 28)) = X) ∧ Below W6.heap.size W6 X ∧ W6.heap.size + 1 ≤ X.heap.size ∧ Hid (X.heap.size = W6.heap.size + 1) ∧ Hid (X.heap[W6.heap.size]? = some (.cells #[.int .i64 M2.n, .string M2.r] 28 (0, 0))) := ⟨_, rfl, ((Below.refl _ _).alloc (Nat.le_refl _) _), by simp, by show _ = _; simp, (by show _ = _; exact alloc_nth1_0 W6 _)⟩
 have B7 : Hid (Below w.heap.size w W7) := B6.out.trans (b7.mono B6.out.size)
 have r_res7 : Hid (W7.heap[w.heap.size]? = some (.cells #[.slice none 0 0, .int .i64 0, .string ⟨#[]⟩, .slice none 0 0, .int .i64 0] 37 (0, 0))) := rowKeep r_res6.out b7
 have r_rh7 : Hid (W7.heap[w.heap.size + 1]? = some (.cells #[.int .i64 0, .string ⟨#[]⟩] 28 (0, 0))) := rowKeep r_rh6.out b7
 have r_x7 : Hid (W7.heap[W3.heap.size]? = some (.cells #[.slice ao_v st.l.length cap_v, .int .i64 st.h.n, .string st.h.r, .slice ao_u L_u cap_u, .int .i64 st.s] 37 (0, 0))) := rowKeep r_x6.out b7
 have o_v7 : Hid (Own W7 (W2.heap.size) (W3.heap.size) 9 (.slice ao_v st.l.length cap_v) (ss st.l)) := Own.later o_v6.out b7 (by omega)
 have o_u7 : Hid (Own W7 (W2.heap.size) (W3.heap.size) 5 (.slice ao_u L_u cap_u) (bs st.b)) := Own.later o_u6.out b7 (by omega)
 have o_a7 : Hid (Own W7 (W2.heap.size) (W3.heap.size) 9 (.slice (some ⟨ga, 0, none⟩) all.length cap_a) (ss all)) := Own.later o_a6.out b7 (by omega)
 clear r_res6 r_rh6 r_x6 o_v6 o_u6 o_a6
 have f_t7 : Hid (Oht W7 W2.heap.size W3.heap.size (.slice ao_t t.length cap_t) t) := Oht.later f_t6.out b7
 clear f_t6
 have cu7 : Hid (Cur W7 (W1.heap.size) (.slice aob (bs xs).length capb) xs.length) := cu6.out.keep b7
 have bw7 : Hid (Below W1.heap.size W1 W7) := bw6.out.trans (b7.mono bw6.out.size)
 clear cu6 bw6
 obtain ⟨x, hxx⟩ : ∃ x, (all.drop st.l.length).take (m - st.l.length) = x := ⟨_, rfl⟩
 have hxl : x.length ≤ 9 := by rw [← hxx, List.length_take, List.length_drop]; omega
 have hxz : ∀ s ∈ x, s.size ≤ 3 := fun s h9 => hAz s (List.mem_of_mem_drop (List.mem_of_mem_take (by rw [hxx]; exact h9)))
 have HXX : Hid ((all.drop st.l.length).take (m - st.l.length) = x) := hxx
 clear hxx
 go_upto_region 8 with fail
 rw [HW7.out]
 go_cut [13] (fun s13 wx => ∃ (lo_tx hi_tx : Nat) (ao_tx : Option Addr) (L_tx cap_tx : Nat), s13 = .slice ao_tx L_tx cap_tx ∧ Below w.heap.size w wx ∧ W7.heap.size ≤ wx.heap.size ∧ Cur wx (W1.heap.size) (.slice aob (bs xs).length capb) xs.length ∧ Below W1.heap.size W1 wx ∧ wx.heap[w.heap.size]? = some (.cells #[.slice none 0 0, .int .i64 0, .string ⟨#[]⟩, .slice none 0 0, .int .i64 0] 37 (0, 0)) ∧ wx.heap[w.heap.size + 1]? = some (.cells #[.int .i64 0, .string ⟨#[]⟩] 28 (0, 0)) ∧ wx.heap[W3.heap.size]? = some (.cells #[.slice ao_v st.l.length cap_v, .int .i64 st.h.n, .string st.h.r, .slice ao_u L_u cap_u, .int .i64 st.s] 37 (0, 0)) ∧ wx.heap[W6.heap.size]? = some (.cells #[.int .i64 M2.n, .string M2.r] 28 (0, 0)) ∧ Own wx (W2.heap.size) (W3.heap.size) 9 (.slice ao_v st.l.length cap_v) (ss st.l) ∧ Own wx (W2.heap.size) (W3.heap.size) 5 (.slice ao_u L_u cap_u) (bs st.b) ∧ Own wx (W2.heap.size) (W3.heap.size) 9 (.slice (some ⟨ga, 0, none⟩) all.length cap_a) (ss all) ∧ Oht wx W2.heap.size W3.heap.size (.slice ao_t t.length cap_t) t ∧ W7.heap.size ≤ lo_tx ∧ lo_tx ≤ hi_tx ∧ hi_tx ≤ wx.heap.size ∧ Own wx lo_tx hi_tx 9 (.slice ao_tx L_tx cap_tx) (ss x))
 case first =>
  by_cases hcl : cap_a = st.l.length
  ·
   subst hcl
   have hx0 : x = [] := by rw [← HXX.out, show m - st.l.length = 0 by omega]; exact List.take_zero
   have b6 : m - st.l.length = 0 := by omega
   have HX0 : Hid (x = []) := hx0
   clear hx0
   obtain ⟨W8, HW8, b8, hS8, o_e8⟩ : ∃ X, Hid ((W7.alloc (.cells #[] 9)) = X) ∧ Below W7.heap.size W7 X ∧ Hid (X.heap.size = W7.heap.size + 1) ∧ Hid (Own X W7.heap.size X.heap.size 9 (.slice (some ⟨W7.heap.size, 0, none⟩) 0 0) (ss [])) := ⟨_, rfl, (Below.refl _ _).alloc (Nat.le_refl _) _, (by show _ = _; simp), emptyT W7 W7.heap.size (Nat.le_refl _)⟩
   have z8 : W7.heap.size ≤ W8.heap.size := b8.size
   have B8 : Hid (Below w.heap.size w W8) := B7.out.trans (b8.mono B7.out.size)
   have r_res8 : Hid (W8.heap[w.heap.size]? = some (.cells #[.slice none 0 0, .int .i64 0, .string ⟨#[]⟩, .slice none 0 0, .int .i64 0] 37 (0, 0))) := rowKeep r_res7.out b8
   have r_rh8 : Hid (W8.heap[w.heap.size + 1]? = some (.cells #[.int .i64 0, .string ⟨#[]⟩] 28 (0, 0))) := rowKeep r_rh7.out b8
   have r_x8 : Hid (W8.heap[W3.heap.size]? = some (.cells #[.slice ao_v st.l.length cap_v, .int .i64 st.h.n, .string st.h.r, .slice ao_u L_u cap_u, .int .i64 st.s] 37 (0, 0))) := rowKeep r_x7.out b8
   have r_h8 : Hid (W8.heap[W6.heap.size]? = some (.cells #[.int .i64 M2.n, .string M2.r] 28 (0, 0))) := rowKeep r_h7.out b8
   have o_v8 : Hid (Own W8 (W2.heap.size) (W3.heap.size) 9 (.slice ao_v st.l.length cap_v) (ss st.l)) := Own.later o_v7.out b8 (by omega)
   have o_u8 : Hid (Own W8 (W2.heap.size) (W3.heap.size) 5 (.slice ao_u L_u cap_u) (bs st.b)) := Own.later o_u7.out b8 (by omega)
   have o_a8 : Hid (Own W8 (W2.heap.size) (W3.heap.size) 9 (.slice (some ⟨ga, 0, none⟩) all.length st.l.length) (ss all)) := Own.later o_a7.out b8 (by omega)
   clear r_res7 r_rh7 r_x7 r_h7 o_v7 o_u7 o_a7
   have f_t8 : Hid (Oht W8 W2.heap.size W3.heap.size (.slice ao_t t.length cap_t) t) := Oht.later f_t7.out b8
   clear f_t7
   have cu8 : Hid (Cur W8 (W1.heap.size) (.slice aob (bs xs).length capb) xs.length) := cu7.out.keep b8
   have bw8 : Hid (Below W1.heap.size W1 W8) := bw7.out.trans (b8.mono bw7.out.size)
   clear cu7 bw7
   have c6_9 : (ss []).length + (ss x).length ≤ maxLen := by rw [ss_len, ss_len]; unfold maxLen; (try simp only [List.length_nil]); omega
   have c7_9 : ((ss []).length + (ss x).length) * 16 ≤ 140737488355328 := by rw [ss_len, ss_len]; (try simp only [List.length_nil]); omega
   have sE9 : Hid (Sl W8 _ (ss x)) := (show Sl W8 (.slice (some ⟨ga, 0, none⟩) 0 0) (ss x) by rw [HX0.out]; exact slZ _ _ _)
   go_wp2_with (at_builtin; (try rw [HW8.out]); go_must (refine wpl_app _ rfl (.tmp 43) (.tmp 47) 24 rfl 9 i9 (.string ⟨#[]⟩) 16 Tryz.underlying24 hi9 hz9a hz9b hz9c rfl (W7.heap.size) _ (ss []) rfl (Own.mono o_e8.out (Nat.le_refl _) (by omega)) _ rfl (ss x) sE9.out (ss_one x) c6_9 c7_9 (by omega) ?_))
   intro v_tx W9 o_tx9 _ g9
   have o_tx9 : Own W9 (W7.heap.size) W9.heap.size 9 v_tx (ss x) := o_tx9
   have o_tx9h : Hid (Own W9 (W7.heap.size) W9.heap.size 9 v_tx (ss x)) := o_tx9
   have f_t9 : Hid (Oht W9 W2.heap.size W3.heap.size (.slice ao_t t.length cap_t) t) := Oht.gro f_t8.out g9 (Own.far o_e8.out (by omega))
   have cu9 : Hid (Cur W9 (W1.heap.size) (.slice aob (bs xs).length capb) xs.length) := cu8.out.groOwn o_e8.out g9 (by decide)
   have bw9 : Hid (Below W1.heap.size W1 W9) := belowGro bw8.out g9 bw8.out.size (Own.low o_e8.out (by omega))
   clear cu8 bw8
   clear o_tx9
   have o_tx9 := o_tx9h
   clear o_tx9h
   obtain ⟨ao_tx, L_tx, cap_tx, rfl, _, _⟩ := Mem.Own.form o_tx9.out
   have z9 : W8.heap.size ≤ W9.heap.size := g9.size
   have B9 : Hid (Below w.heap.size w W9) := belowGro B8.out g9 B8.out.size (Own.low o_e8.out (by have := B8.out.size; omega))
   have r_res9 : Hid (W9.heap[w.heap.size]? = some (.cells #[.slice none 0 0, .int .i64 0, .string ⟨#[]⟩, .slice none 0 0, .int .i64 0] 37 (0, 0))) := rowGro r_res8.out g9 (Own.neRow o_e8.out r_res8.out (by decide))
   have r_rh9 : Hid (W9.heap[w.heap.size + 1]? = some (.cells #[.int .i64 0, .string ⟨#[]⟩] 28 (0, 0))) := rowGro r_rh8.out g9 (Own.neRow o_e8.out r_rh8.out (by decide))
   have r_x9 : Hid (W9.heap[W3.heap.size]? = some (.cells #[.slice ao_v st.l.length cap_v, .int .i64 st.h.n, .string st.h.r, .slice ao_u L_u cap_u, .int .i64 st.s] 37 (0, 0))) := rowGro r_x8.out g9 (Own.neRow o_e8.out r_x8.out (by decide))
   have r_h9 : Hid (W9.heap[W6.heap.size]? = some (.cells #[.int .i64 M2.n, .string M2.r] 28 (0, 0))) := rowGro r_h8.out g9 (Own.neRow o_e8.out r_h8.out (by decide))
   have o_v9 : Hid (Own W9 (W2.heap.size) (W3.heap.size) 9 (.slice ao_v st.l.length cap_v) (ss st.l)) := Own.gro o_v8.out g9 (Own.neFar o_e8.out o_v8.out (by omega))
   have o_u9 : Hid (Own W9 (W2.heap.size) (W3.heap.size) 5 (.slice ao_u L_u cap_u) (bs st.b)) := Own.gro o_u8.out g9 (Own.neOwn o_e8.out o_u8.out (by decide))
   have o_a9 : Hid (Own W9 (W2.heap.size) (W3.heap.size) 9 (.slice (some ⟨ga, 0, none⟩) all.length st.l.length) (ss all)) := Own.gro o_a8.out g9 (Own.neFar o_e8.out o_a8.out (by omega))
   have c_x9_0 : W9.cell? ⟨W3.heap.size, 0, none⟩ = some (.slice ao_v st.l.length cap_v) := row_at r_x9.out 0
   have c_x9_1 : W9.cell? ⟨W3.heap.size, 1, none⟩ = some (.int .i64 st.h.n) := row_at r_x9.out 1
   have c_x9_2 : W9.cell? ⟨W3.heap.size, 2, none⟩ = some (.string st.h.r) := row_at r_x9.out 2
   have c_x9_3 : W9.cell? ⟨W3.heap.size, 3, none⟩ = some (.slice ao_u L_u cap_u) := row_at r_x9.out 3
   have c_x9_4 : W9.cell? ⟨W3.heap.size, 4, none⟩ = some (.int .i64 st.s) := row_at r_x9.out 4
   have c_h9_0 : W9.cell? ⟨W6.heap.size, 0, none⟩ = some (.int .i64 M2.n) := row_at r_h9.out 0
   have c_h9_1 : W9.cell? ⟨W6.heap.size, 1, none⟩ = some (.string M2.r) := row_at r_h9.out 1
   clear r_res8 r_rh8 r_x8 r_h8 o_v8 o_u8 o_a8 o_e8
   clear f_t8
   clear g9 sE9 c6_9 c7_9
   go_wp2_with fail
   go_meet
   exact ⟨W7.heap.size, W9.heap.size, ao_tx, L_tx, cap_tx, rfl, B9.out, by omega, cu9.out, bw9.out, r_res9.out, r_rh9.out, r_x9.out, r_h9.out, o_v9.out, o_u9.out, o_a9.out, f_t9.out, by omega, by omega, by omega, o_tx9.out⟩
  ·
   have HX : Hid (∀ W, Sl W (.slice (some ⟨ga, 0, none⟩) all.length cap_a) (ss all) → Sl W (.slice (some ⟨ga, st.l.length, none⟩) (m - st.l.length) (cap_a - st.l.length)) (ss x)) := by
    intro W h9
    by_cases h7 : st.l.length < all.length
    ·
     have h8 := slMidT h9 st.l.length (m - st.l.length) h7 (by omega)
     rw [HXX.out, Nat.zero_add] at h8; exact h8
    ·
     have h6 : x = [] := by rw [← HXX.out, show m - st.l.length = 0 by omega]; exact List.take_zero
     rw [h6, show m - st.l.length = 0 by omega]; exact slZ _ _ _
   obtain ⟨W8, HW8, b8, hS8, o_e8⟩ : ∃ X, Hid ((W7.alloc (.cells #[] 9)) = X) ∧ Below W7.heap.size W7 X ∧ Hid (X.heap.size = W7.heap.size + 1) ∧ Hid (Own X W7.heap.size X.heap.size 9 (.slice (some ⟨W7.heap.size, 0, none⟩) 0 0) (ss [])) := ⟨_, rfl, (Below.refl _ _).alloc (Nat.le_refl _) _, (by show _ = _; simp), emptyT W7 W7.heap.size (Nat.le_refl _)⟩
   have z8 : W7.heap.size ≤ W8.heap.size := b8.size
   have B8 : Hid (Below w.heap.size w W8) := B7.out.trans (b8.mono B7.out.size)
   have r_res8 : Hid (W8.heap[w.heap.size]? = some (.cells #[.slice none 0 0, .int .i64 0, .string ⟨#[]⟩, .slice none 0 0, .int .i64 0] 37 (0, 0))) := rowKeep r_res7.out b8
   have r_rh8 : Hid (W8.heap[w.heap.size + 1]? = some (.cells #[.int .i64 0, .string ⟨#[]⟩] 28 (0, 0))) := rowKeep r_rh7.out b8
   have r_x8 : Hid (W8.heap[W3.heap.size]? = some (.cells #[.slice ao_v st.l.length cap_v, .int .i64 st.h.n, .string st.h.r, .slice ao_u L_u cap_u, .int .i64 st.s] 37 (0, 0))) := rowKeep r_x7.out b8
   have r_h8 : Hid (W8.heap[W6.heap.size]? = some (.cells #[.int .i64 M2.n, .string M2.r] 28 (0, 0))) := rowKeep r_h7.out b8
   have o_v8 : Hid (Own W8 (W2.heap.size) (W3.heap.size) 9 (.slice ao_v st.l.length cap_v) (ss st.l)) := Own.later o_v7.out b8 (by omega)
   have o_u8 : Hid (Own W8 (W2.heap.size) (W3.heap.size) 5 (.slice ao_u L_u cap_u) (bs st.b)) := Own.later o_u7.out b8 (by omega)
   have o_a8 : Hid (Own W8 (W2.heap.size) (W3.heap.size) 9 (.slice (some ⟨ga, 0, none⟩) all.length cap_a) (ss all)) := Own.later o_a7.out b8 (by omega)
   clear r_res7 r_rh7 r_x7 r_h7 o_v7 o_u7 o_a7
   have f_t8 : Hid (Oht W8 W2.heap.size W3.heap.size (.slice ao_t t.length cap_t) t) := Oht.later f_t7.out b8
   clear f_t7
   have cu8 : Hid (Cur W8 (W1.heap.size) (.slice aob (bs xs).length capb) xs.length) := cu7.out.keep b8
   have bw8 : Hid (Below W1.heap.size W1 W8) := bw7.out.trans (b8.mono bw7.out.size)
   clear cu7 bw7
   have c6_9 : (ss []).length + (ss x).length ≤ maxLen := by rw [ss_len, ss_len]; unfold maxLen; (try simp only [List.length_nil]); omega
   have c7_9 : ((ss []).length + (ss x).length) * 16 ≤ 140737488355328 := by rw [ss_len, ss_len]; (try simp only [List.length_nil]); omega
   have sE9 : Hid (Sl W8 _ (ss x)) := HX.out _ o_a8.out.sl
   go_wp2_with (at_builtin; (try rw [HW8.out]); go_must (refine wpl_app _ rfl (.tmp 43) (.tmp 47) 24 rfl 9 i9 (.string ⟨#[]⟩) 16 Tryz.underlying24 hi9 hz9a hz9b hz9c rfl (W7.heap.size) _ (ss []) rfl (Own.mono o_e8.out (Nat.le_refl _) (by omega)) _ rfl (ss x) sE9.out (ss_one x) c6_9 c7_9 (by omega) ?_))
   intro v_tx W9 o_tx9 _ g9
   have o_tx9 : Own W9 (W7.heap.size) W9.heap.size 9 v_tx (ss x) := o_tx9
   have o_tx9h : Hid (Own W9 (W7.heap.size) W9.heap.size 9 v_tx (ss x)) := o_tx9
   have f_t9 : Hid (Oht W9 W2.heap.size W3.heap.size (.slice ao_t t.length cap_t) t) := Oht.gro f_t8.out g9 (Own.far o_e8.out (by omega))
   have cu9 : Hid (Cur W9 (W1.heap.size) (.slice aob (bs xs).length capb) xs.length) := cu8.out.groOwn o_e8.out g9 (by decide)
   have bw9 : Hid (Below W1.heap.size W1 W9) := belowGro bw8.out g9 bw8.out.size (Own.low o_e8.out (by omega))
   clear cu8 bw8
   clear o_tx9
   have o_tx9 := o_tx9h
   clear o_tx9h
   obtain ⟨ao_tx, L_tx, cap_tx, rfl, _, _⟩ := Mem.Own.form o_tx9.out
   have z9 : W8.heap.size ≤ W9.heap.size := g9.size
   have B9 : Hid (Below w.heap.size w W9) := belowGro B8.out g9 B8.out.size (Own.low o_e8.out (by have := B8.out.size; omega))
   have r_res9 : Hid (W9.heap[w.heap.size]? = some (.cells #[.slice none 0 0, .int .i64 0, .string ⟨#[]⟩, .slice none 0 0, .int .i64 0] 37 (0, 0))) := rowGro r_res8.out g9 (Own.neRow o_e8.out r_res8.out (by decide))
   have r_rh9 : Hid (W9.heap[w.heap.size + 1]? = some (.cells #[.int .i64 0, .string ⟨#[]⟩] 28 (0, 0))) := rowGro r_rh8.out g9 (Own.neRow o_e8.out r_rh8.out (by decide))
   have r_x9 : Hid (W9.heap[W3.heap.size]? = some (.cells #[.slice ao_v st.l.length cap_v, .int .i64 st.h.n, .string st.h.r, .slice ao_u L_u cap_u, .int .i64 st.s] 37 (0, 0))) := rowGro r_x8.out g9 (Own.neRow o_e8.out r_x8.out (by decide))
   have r_h9 : Hid (W9.heap[W6.heap.size]? = some (.cells #[.int .i64 M2.n, .string M2.r] 28 (0, 0))) := rowGro r_h8.out g9 (Own.neRow o_e8.out r_h8.out (by decide))
   have o_v9 : Hid (Own W9 (W2.heap.size) (W3.heap.size) 9 (.slice ao_v st.l.length cap_v) (ss st.l)) := Own.gro o_v8.out g9 (Own.neFar o_e8.out o_v8.out (by omega))
   have o_u9 : Hid (Own W9 (W2.heap.size) (W3.heap.size) 5 (.slice ao_u L_u cap_u) (bs st.b)) := Own.gro o_u8.out g9 (Own.neOwn o_e8.out o_u8.out (by decide))
   have o_a9 : Hid (Own W9 (W2.heap.size) (W3.heap.size) 9 (.slice (some ⟨ga, 0, none⟩) all.length cap_a) (ss all)) := Own.gro o_a8.out g9 (Own.neFar o_e8.out o_a8.out (by omega))
   clear r_res8 r_rh8 r_x8 r_h8 o_v8 o_u8 o_a8 o_e8
   clear f_t8
   clear g9 sE9 c6_9 c7_9
   go_wp2_with fail
   go_meet
   exact ⟨W7.heap.size, W9.heap.size, ao_tx, L_tx, cap_tx, rfl, B9.out, by omega, cu9.out, bw9.out, r_res9.out, r_rh9.out, r_x9.out, r_h9.out, o_v9.out, o_u9.out, o_a9.out, f_t9.out, by omega, by omega, by omega, o_tx9.out⟩
 case rest =>
 obtain ⟨lo_tx, hi_tx, ao_tx, L_tx, cap_tx, rfl, B8, z8, cu8, bw8, r_res8, r_rh8, r_x8, r_h8, o_v8, o_u8, o_a8, f_t8, d1_tx, d2_tx, d3_tx, o_tx8⟩ := hcut
 revert B8 z8 cu8 bw8 r_res8 r_rh8 r_x8 r_h8 o_v8 o_u8 o_a8 f_t8 d1_tx d2_tx d3_tx o_tx8
 generalize wc = W8
 intro B8 z8 cu8 bw8 r_res8 r_rh8 r_x8 r_h8 o_v8 o_u8 o_a8 f_t8 d1_tx d2_tx d3_tx o_tx8
 have B8 : Hid (Below w.heap.size w W8) := B8
 have cu8 : Hid (Cur W8 (W1.heap.size) (.slice aob (bs xs).length capb) xs.length) := cu8
 have bw8 : Hid (Below W1.heap.size W1 W8) := bw8
 have r_res8 : Hid (W8.heap[w.heap.size]? = some (.cells #[.slice none 0 0, .int .i64 0, .string ⟨#[]⟩, .slice none 0 0, .int .i64 0] 37 (0, 0))) := r_res8
 have r_rh8 : Hid (W8.heap[w.heap.size + 1]? = some (.cells #[.int .i64 0, .string ⟨#[]⟩] 28 (0, 0))) := r_rh8
 have r_x8 : Hid (W8.heap[W3.heap.size]? = some (.cells #[.slice ao_v st.l.length cap_v, .int .i64 st.h.n, .string st.h.r, .slice ao_u L_u cap_u, .int .i64 st.s] 37 (0, 0))) := r_x8
 have r_h8 : Hid (W8.heap[W6.heap.size]? = some (.cells #[.int .i64 M2.n, .string M2.r] 28 (0, 0))) := r_h8
 have o_v8 : Hid (Own W8 (W2.heap.size) (W3.heap.size) 9 (.slice ao_v st.l.length cap_v) (ss st.l)) := o_v8
 have o_u8 : Hid (Own W8 (W2.heap.size) (W3.heap.size) 5 (.slice ao_u L_u cap_u) (bs st.b)) := o_u8
 have o_a8 : Hid (Own W8 (W2.heap.size) (W3.heap.size) 9 (.slice (some ⟨ga, 0, none⟩) all.length cap_a) (ss all)) := o_a8
 have f_t8 : Hid (Oht W8 W2.heap.size W3.heap.size (.slice ao_t t.length cap_t) t) := f_t8
 have o_tx8 : Hid (Own W8 lo_tx hi_tx 9 (.slice ao_tx L_tx cap_tx) (ss x)) := o_tx8
 clear r_res7 r_rh7 r_x7 r_h7 o_v7 o_u7 o_a7 f_t7 cu7 bw7
 clear o_a8
 obtain rfl : L_tx = x.length := by obtain ⟨a9, L9, c9, he, h1, h2⟩ := Mem.Own.form o_tx8.out; injection he with _ he2 _; rw [ss_len] at h1 h2; omega
 go_wp2_with fail
 refine (below_any W1 W8 (W1.heap.size) _ xs 10 (by omega) (by omega) HSW.out hby hx bw8.out (Nat.le_refl _) cu8.out).mono ?_
 rintro e W9 ⟨y2, rfl, hz0, hz10, d9⟩
 have z9 : W8.heap.size ≤ W9.heap.size := d9.apart.size
 have B9 : Hid (Below w.heap.size w W9) := B1.out.trans (d9.below.mono B1.out.size)
 have cu9 : Hid (Cur W9 (W1.heap.size) (.slice aob (bs xs).length capb) xs.length) := d9.cur
 have bw9 : Hid (Below W1.heap.size W1 W9) := d9.below
 have r_res9 : Hid (W9.heap[w.heap.size]? = some (.cells #[.slice none 0 0, .int .i64 0, .string ⟨#[]⟩, .slice none 0 0, .int .i64 0] 37 (0, 0))) := drawn_row r_res8.out d9 (by omega)
 have r_rh9 : Hid (W9.heap[w.heap.size + 1]? = some (.cells #[.int .i64 0, .string ⟨#[]⟩] 28 (0, 0))) := drawn_row r_rh8.out d9 (by omega)
 have r_x9 : Hid (W9.heap[W3.heap.size]? = some (.cells #[.slice ao_v st.l.length cap_v, .int .i64 st.h.n, .string st.h.r, .slice ao_u L_u cap_u, .int .i64 st.s] 37 (0, 0))) := drawn_row r_x8.out d9 (by omega)
 have r_h9 : Hid (W9.heap[W6.heap.size]? = some (.cells #[.int .i64 M2.n, .string M2.r] 28 (0, 0))) := drawn_row r_h8.out d9 (by omega)
 have o_v9 : Hid (Own W9 (W2.heap.size) (W3.heap.size) 9 (.slice ao_v st.l.length cap_v) (ss st.l)) := Own.drawn o_v8.out d9 (by omega) (by omega)
 have o_u9 : Hid (Own W9 (W2.heap.size) (W3.heap.size) 5 (.slice ao_u L_u cap_u) (bs st.b)) := Own.drawn o_u8.out d9 (by omega) (by omega)
 have o_tx9 : Hid (Own W9 (lo_tx) (hi_tx) 9 (.slice ao_tx x.length cap_tx) (ss x)) := Own.drawn o_tx8.out d9 (by omega) (by omega)
 have f_t9 : Hid (Oht W9 W2.heap.size W3.heap.size (.slice ao_t t.length cap_t) t) := Oht.drawn f_t8.out d9 (by omega)
 have c_x9_0 : W9.cell? ⟨W3.heap.size, 0, none⟩ = some (.slice ao_v st.l.length cap_v) := row_at r_x9.out 0
 have c_x9_1 : W9.cell? ⟨W3.heap.size, 1, none⟩ = some (.int .i64 st.h.n) := row_at r_x9.out 1
 have c_x9_2 : W9.cell? ⟨W3.heap.size, 2, none⟩ = some (.string st.h.r) := row_at r_x9.out 2
 have c_x9_3 : W9.cell? ⟨W3.heap.size, 3, none⟩ = some (.slice ao_u L_u cap_u) := row_at r_x9.out 3
 have c_x9_4 : W9.cell? ⟨W3.heap.size, 4, none⟩ = some (.int .i64 st.s) := row_at r_x9.out 4
 have c_h9_0 : W9.cell? ⟨W6.heap.size, 0, none⟩ = some (.int .i64 M2.n) := row_at r_h9.out 0
 have c_h9_1 : W9.cell? ⟨W6.heap.size, 1, none⟩ = some (.string M2.r) := row_at r_h9.out 1
 clear r_res8 r_rh8 r_x8 r_h8 o_v8 o_u8 o_tx8
 clear cu8 bw8 d9 f_t8
 by_cases hy0a : y2 = 0
 ·
  subst hy0a
  go_wp2_with fail
  refine (any12 W1 W9 (W1.heap.size) _ xs HSW.out hby hx bw9.out (Nat.le_refl _) cu9.out).mono ?_
  rintro e W10 ⟨st3, v_n, v_m, rfl, hA3, o_n10, o_m10, d10⟩
  have z10 : W9.heap.size ≤ W10.heap.size := d10.apart.size
  have B10 : Hid (Below w.heap.size w W10) := B1.out.trans (d10.below.mono B1.out.size)
  have r_res10 : Hid (W10.heap[w.heap.size]? = some (.cells #[.slice none 0 0, .int .i64 0, .string ⟨#[]⟩, .slice none 0 0, .int .i64 0] 37 (0, 0))) := drawn_row r_res9.out d10 (by omega)
  have r_rh10 : Hid (W10.heap[w.heap.size + 1]? = some (.cells #[.int .i64 0, .string ⟨#[]⟩] 28 (0, 0))) := drawn_row r_rh9.out d10 (by omega)
  have r_x10 : Hid (W10.heap[W3.heap.size]? = some (.cells #[.slice ao_v st.l.length cap_v, .int .i64 st.h.n, .string st.h.r, .slice ao_u L_u cap_u, .int .i64 st.s] 37 (0, 0))) := drawn_row r_x9.out d10 (by omega)
  have r_h10 : Hid (W10.heap[W6.heap.size]? = some (.cells #[.int .i64 M2.n, .string M2.r] 28 (0, 0))) := drawn_row r_h9.out d10 (by omega)
  have o_tx10 : Hid (Own W10 (lo_tx) (hi_tx) 9 (.slice ao_tx x.length cap_tx) (ss x)) := Own.drawn o_tx9.out d10 (by omega) (by omega)
  have f_t10 : Hid (Oht W10 W2.heap.size W3.heap.size (.slice ao_t t.length cap_t) t) := Oht.drawn f_t9.out d10 (by omega)
  clear r_res9 r_rh9 r_x9 c_x9_0 c_x9_1 c_x9_2 c_x9_3 c_x9_4 r_h9 c_h9_0 c_h9_1 o_v9 o_u9 o_tx9
  clear cu9 bw9 d10 f_t9
  obtain ⟨ao_n, L_n, cap_n, rfl, _, _⟩ := Mem.Own.form o_n10
  have o_n10 : Hid (Own W10 W9.heap.size W10.heap.size 9 (.slice ao_n L_n cap_n) (ss st3.l)) := o_n10
  obtain ⟨ao_m, L_m, cap_m, rfl, _, _⟩ := Mem.Own.form o_m10
  have o_m10 : Hid (Own W10 W9.heap.size W10.heap.size 5 (.slice ao_m L_m cap_m) (bs st3.b)) := o_m10
  go_wp2_with (refine wpl_partG rfl 37 _ _ rfl (W3.heap.size) 0 (sc (.slice ao_n L_n cap_n) st3.h (.slice ao_m L_m cap_m) st3.s) rfl rfl [.slice ao_v st.l.length cap_v, .int .i64 st.h.n, .string st.h.r, .slice ao_u L_u cap_u, .int .i64 st.s] 37 r_x10.out (Nat.le_of_ble_eq_true rfl) (sizeS _ _ _ _) (oneS _ _ rfl rfl) [.slice ao_n L_n cap_n, .int .i64 st3.h.n, .string st3.h.r, .slice ao_m L_m cap_m, .int .i64 st3.s] rfl ?_)
  intro W11 r_x11 g11
  have f_t11 : Hid (Oht W11 W2.heap.size W3.heap.size (.slice ao_t t.length cap_t) t) := Oht.gro f_t10.out g11 (fun k9 h9 => by injection h9 with h9; omega)
  have r_x11 : Hid (W11.heap[W3.heap.size]? = some (.cells #[.slice ao_n L_n cap_n, .int .i64 st3.h.n, .string st3.h.r, .slice ao_m L_m cap_m, .int .i64 st3.s] 37 (0, 0))) := r_x11
  have z11 : W10.heap.size ≤ W11.heap.size := g11.size
  have B11 : Hid (Below w.heap.size w W11) := belowGro B10.out g11 B10.out.size (fun k9 h9 => by injection h9 with h9; have := B10.out.size; omega)
  have r_res11 : Hid (W11.heap[w.heap.size]? = some (.cells #[.slice none 0 0, .int .i64 0, .string ⟨#[]⟩, .slice none 0 0, .int .i64 0] 37 (0, 0))) := rowGro r_res10.out g11 (fun h9 => by injection h9 with h9; omega)
  have r_rh11 : Hid (W11.heap[w.heap.size + 1]? = some (.cells #[.int .i64 0, .string ⟨#[]⟩] 28 (0, 0))) := rowGro r_rh10.out g11 (fun h9 => by injection h9 with h9; omega)
  have r_h11 : Hid (W11.heap[W6.heap.size]? = some (.cells #[.int .i64 M2.n, .string M2.r] 28 (0, 0))) := rowGro r_h10.out g11 (fun h9 => by injection h9 with h9; omega)
  have o_tx11 : Hid (Own W11 (lo_tx) (hi_tx) 9 (.slice ao_tx x.length cap_tx) (ss x)) := Own.gro o_tx10.out g11 (fun k9 h9 e9 => Own.neRow o_tx10.out r_x10.out (by decide) (h9.trans e9.symm))
  have o_n11 : Hid (Own W11 (W9.heap.size) (W10.heap.size) 9 (.slice ao_n L_n cap_n) (ss st3.l)) := Own.gro o_n10.out g11 (fun k9 h9 e9 => Own.neRow o_n10.out r_x10.out (by decide) (h9.trans e9.symm))
  have o_m11 : Hid (Own W11 (W9.heap.size) (W10.heap.size) 5 (.slice ao_m L_m cap_m) (bs st3.b)) := Own.gro o_m10.out g11 (fun k9 h9 e9 => Own.neRow o_m10.out r_x10.out (by decide) (h9.trans e9.symm))
  have c_x11_0 : W11.cell? ⟨W3.heap.size, 0, none⟩ = some (.slice ao_n L_n cap_n) := row_at r_x11.out 0
  have c_x11_1 : W11.cell? ⟨W3.heap.size, 1, none⟩ = some (.int .i64 st3.h.n) := row_at r_x11.out 1
  have c_x11_2 : W11.cell? ⟨W3.heap.size, 2, none⟩ = some (.string st3.h.r) := row_at r_x11.out 2
  have c_x11_3 : W11.cell? ⟨W3.heap.size, 3, none⟩ = some (.slice ao_m L_m cap_m) := row_at r_x11.out 3
  have c_x11_4 : W11.cell? ⟨W3.heap.size, 4, none⟩ = some (.int .i64 st3.s) := row_at r_x11.out 4
  have c_h11_0 : W11.cell? ⟨W6.heap.size, 0, none⟩ = some (.int .i64 M2.n) := row_at r_h11.out 0
  have c_h11_1 : W11.cell? ⟨W6.heap.size, 1, none⟩ = some (.string M2.r) := row_at r_h11.out 1
  clear r_res10 r_rh10 r_h10 o_tx10 o_n10 o_m10
  clear r_x10
  clear f_t10
  clear g11
  go_wp2_with fail
  refine wp_region_held_drew (S := fun w' => w'.cell? ⟨W3.heap.size, 0, none⟩ = some (.slice ao_n L_n cap_n) ∧ w'.cell? ⟨W3.heap.size, 1, none⟩ = some (.int .i64 st3.h.n) ∧ w'.cell? ⟨W3.heap.size, 2, none⟩ = some (.string st3.h.r) ∧ w'.cell? ⟨W3.heap.size, 3, none⟩ = some (.slice ao_m L_m cap_m) ∧ w'.cell? ⟨W3.heap.size, 4, none⟩ = some (.int .i64 st3.s) ∧ w'.cell? ⟨W6.heap.size, 0, none⟩ = some (.int .i64 M2.n) ∧ w'.cell? ⟨W6.heap.size, 1, none⟩ = some (.string M2.r)) (by kernel_rfl) ⟨c_x11_0, c_x11_1, c_x11_2, c_x11_3, c_x11_4, c_h11_0, c_h11_1⟩ (fun hHeld => ?_)
  obtain ⟨W12, HW12, b12⟩ : ∃ X, Hid (W11.drew = X) ∧ Below W11.heap.size W11 X := ⟨_, rfl, Below.drew (Below.refl _ _)⟩
  have HHW12 := HW12.out
  rw [HHW12] at hHeld ⊢
  clear HHW12
  have B12 : Hid (Below w.heap.size w W12) := B11.out.trans (b12.mono B11.out.size)
  have r_res12 : Hid (W12.heap[w.heap.size]? = some (.cells #[.slice none 0 0, .int .i64 0, .string ⟨#[]⟩, .slice none 0 0, .int .i64 0] 37 (0, 0))) := rowKeep r_res11.out b12
  have r_rh12 : Hid (W12.heap[w.heap.size + 1]? = some (.cells #[.int .i64 0, .string ⟨#[]⟩] 28 (0, 0))) := rowKeep r_rh11.out b12
  have o_tx12 : Hid (Own W12 (lo_tx) (hi_tx) 9 (.slice ao_tx x.length cap_tx) (ss x)) := Own.later o_tx11.out b12 (by omega)
  have o_n12 : Hid (Own W12 (W9.heap.size) (W10.heap.size) 9 (.slice ao_n L_n cap_n) (ss st3.l)) := Own.later o_n11.out b12 (by omega)
  have o_m12 : Hid (Own W12 (W9.heap.size) (W10.heap.size) 5 (.slice ao_m L_m cap_m) (bs st3.b)) := Own.later o_m11.out b12 (by omega)
  clear r_res11 r_rh11 r_x11 c_x11_0 c_x11_1 c_x11_2 c_x11_3 c_x11_4 r_h11 c_h11_0 c_h11_1 o_tx11 o_n11 o_m11
  have f_t12 : Hid (Oht W12 W2.heap.size W3.heap.size (.slice ao_t t.length cap_t) t) := Oht.later f_t11.out b12
  clear f_t11
  (refine wpAnyH_take (i := 0) (v := ?v0x71) rfl (by kernel_rfl) (by kernel_rfl) (by kernel_rfl) (fun _ _ _ h => h) (Or.inl ⟨by rfl, ?hy0x71⟩) (by assumption) ?rest0x71; case hy0x71 => (intro w hSw; (try dsimp only at hSw); go_split_ands; go_simp; (try with_reducible rfl)))
  try simp only [Act.put, pu1, pu2, pu3, pu4, pu5, pu6]
  (refine wpAnyH_take (i := 1) (v := ?v1x72) rfl (by kernel_rfl) (by kernel_rfl) (by kernel_rfl) (fun _ _ _ h => h) (Or.inl ⟨by rfl, ?hy1x72⟩) (by assumption) ?rest1x72; case hy1x72 => (intro w hSw; (try dsimp only at hSw); go_split_ands; go_simp; (try with_reducible rfl)))
  try simp only [Act.put, pu1, pu2, pu3, pu4, pu5, pu6]
  (refine wpAnyH_take (i := 2) (v := ?v2x73) rfl (by kernel_rfl) (by kernel_rfl) (by kernel_rfl) (fun _ _ _ h => h) (Or.inl ⟨by rfl, ?hy2x73⟩) (by assumption) ?rest2x73; case hy2x73 => (intro w hSw; (try dsimp only at hSw); go_split_ands; go_simp; (try with_reducible rfl)))
  try simp only [Act.put, pu1, pu2, pu3, pu4, pu5, pu6]
  (refine wpAnyH_take (i := 3) (v := ?v3x74) rfl (by kernel_rfl) (by kernel_rfl) (by kernel_rfl) (fun _ _ _ h => h) (Or.inl ⟨by rfl, ?hy3x74⟩) (by assumption) ?rest3x74; case hy3x74 => (intro w hSw; (try dsimp only at hSw); go_split_ands; go_simp; (try with_reducible rfl)))
  try simp only [Act.put, pu1, pu2, pu3, pu4, pu5, pu6]
  refine wpAnyH_ready (rs := [4]) (by kernel_rfl) (by simp) ?_
  refine AllReadyH.cons rfl (fun K hK => ?_) AllReadyH.nil
  rw [if_pos (by rfl)]
  refine wp_partG 37 _ _ rfl (w.heap.size) 0 (sc (.slice ao_n L_n cap_n) (st3).h (.slice ao_m L_m cap_m) (st3).s) rfl rfl [.slice none 0 0, .int .i64 0, .string ⟨#[]⟩, .slice none 0 0, .int .i64 0] 37 r_res12.out (Nat.le_of_ble_eq_true rfl) (sizeS _ _ _ _) (oneS _ _ rfl rfl) [.slice ao_n L_n cap_n, .int .i64 st3.h.n, .string st3.h.r, .slice ao_m L_m cap_m, .int .i64 st3.s] rfl ?_
  intro W13 r_res13 g13
  refine hK.out _ _ ⟨(cellGro hHeld.1 g13 (by show some (w.heap.size) ≠ some (W3.heap.size); intro h9; injection h9 with h9; omega)), (cellGro hHeld.2.1 g13 (by show some (w.heap.size) ≠ some (W3.heap.size); intro h9; injection h9 with h9; omega)), (cellGro hHeld.2.2.1 g13 (by show some (w.heap.size) ≠ some (W3.heap.size); intro h9; injection h9 with h9; omega)), (cellGro hHeld.2.2.2.1 g13 (by show some (w.heap.size) ≠ some (W3.heap.size); intro h9; injection h9 with h9; omega)), (cellGro hHeld.2.2.2.2.1 g13 (by show some (w.heap.size) ≠ some (W3.heap.size); intro h9; injection h9 with h9; omega)), (cellGro hHeld.2.2.2.2.2.1 g13 (by show some (w.heap.size) ≠ some (W6.heap.size); intro h9; injection h9 with h9; omega)), (cellGro hHeld.2.2.2.2.2.2 g13 (by show some (w.heap.size) ≠ some (W6.heap.size); intro h9; injection h9 with h9; omega))⟩ (fun hHeld => ?_)
  clear hK K
  try simp only [Act.put, pu1, pu2, pu3, pu4, pu5, pu6]
  have f_t13 : Hid (Oht W13 W2.heap.size W3.heap.size (.slice ao_t t.length cap_t) t) := Oht.gro f_t12.out g13 (fun k9 h9 => by injection h9 with h9; omega)
  have r_res13 : Hid (W13.heap[w.heap.size]? = some (.cells #[.slice ao_n L_n cap_n, .int .i64 st3.h.n, .string st3.h.r, .slice ao_m L_m cap_m, .int .i64 st3.s] 37 (0, 0))) := r_res13
  have B13 : Hid (Below w.heap.size w W13) := belowGro B12.out g13 B12.out.size (fun k9 h9 => by injection h9 with h9; have := B12.out.size; omega)
  have r_rh13 : Hid (W13.heap[w.heap.size + 1]? = some (.cells #[.int .i64 0, .string ⟨#[]⟩] 28 (0, 0))) := rowGro r_rh12.out g13 (fun h9 => by injection h9 with h9; omega)
  have o_tx13 : Hid (Own W13 (lo_tx) (hi_tx) 9 (.slice ao_tx x.length cap_tx) (ss x)) := Own.gro o_tx12.out g13 (fun k9 h9 e9 => Own.neRow o_tx12.out r_res12.out (by decide) (h9.trans e9.symm))
  have o_n13 : Hid (Own W13 (W9.heap.size) (W10.heap.size) 9 (.slice ao_n L_n cap_n) (ss st3.l)) := Own.gro o_n12.out g13 (fun k9 h9 e9 => Own.neRow o_n12.out r_res12.out (by decide) (h9.trans e9.symm))
  have o_m13 : Hid (Own W13 (W9.heap.size) (W10.heap.size) 5 (.slice ao_m L_m cap_m) (bs st3.b)) := Own.gro o_m12.out g13 (fun k9 h9 e9 => Own.neRow o_m12.out r_res12.out (by decide) (h9.trans e9.symm))
  clear r_rh12 o_tx12 o_n12 o_m12
  clear r_res12
  clear f_t12
  clear g13
  (refine wpAnyH_take (i := 5) (v := ?v5x75) rfl (by kernel_rfl) (by kernel_rfl) (by kernel_rfl) (fun _ _ _ h => h) (Or.inl ⟨by rfl, ?hy5x75⟩) (by assumption) ?rest5x75; case hy5x75 => (intro w hSw; (try dsimp only at hSw); go_split_ands; go_simp; (try with_reducible rfl)))
  try simp only [Act.put, pu1, pu2, pu3, pu4, pu5, pu6]
  refine wpAnyH_ready (rs := [6]) (by kernel_rfl) (by simp) ?_
  refine AllReadyH.cons rfl (fun K hK => ?_) AllReadyH.nil
  rw [if_pos (by rfl)]
  refine wp_partG 28 _ _ rfl (w.heap.size + 1) 0 (hc M2) rfl rfl [.int .i64 0, .string ⟨#[]⟩] 28 r_rh13.out (Nat.le_of_ble_eq_true rfl) (sizeH _) (oneH _) [.int .i64 M2.n, .string M2.r] rfl ?_
  intro W14 r_rh14 g14
  refine hK.out _ _ ⟨(cellGro hHeld.1 g14 (by show some (w.heap.size + 1) ≠ some (W3.heap.size); intro h9; injection h9 with h9; omega)), (cellGro hHeld.2.1 g14 (by show some (w.heap.size + 1) ≠ some (W3.heap.size); intro h9; injection h9 with h9; omega)), (cellGro hHeld.2.2.1 g14 (by show some (w.heap.size + 1) ≠ some (W3.heap.size); intro h9; injection h9 with h9; omega)), (cellGro hHeld.2.2.2.1 g14 (by show some (w.heap.size + 1) ≠ some (W3.heap.size); intro h9; injection h9 with h9; omega)), (cellGro hHeld.2.2.2.2.1 g14 (by show some (w.heap.size + 1) ≠ some (W3.heap.size); intro h9; injection h9 with h9; omega)), (cellGro hHeld.2.2.2.2.2.1 g14 (by show some (w.heap.size + 1) ≠ some (W6.heap.size); intro h9; injection h9 with h9; omega)), (cellGro hHeld.2.2.2.2.2.2 g14 (by show some (w.heap.size + 1) ≠ some (W6.heap.size); intro h9; injection h9 with h9; omega))⟩ (fun hHeld => ?_)
  clear hK K
  try simp only [Act.put, pu1, pu2, pu3, pu4, pu5, pu6]
  have f_t14 : Hid (Oht W14 W2.heap.size W3.heap.size (.slice ao_t t.length cap_t) t) := Oht.gro f_t13.out g14 (fun k9 h9 => by injection h9 with h9; omega)
  have r_rh14 : Hid (W14.heap[w.heap.size + 1]? = some (.cells #[.int .i64 M2.n, .string M2.r] 28 (0, 0))) := r_rh14
  have B14 : Hid (Below w.heap.size w W14) := belowGro B13.out g14 B13.out.size (fun k9 h9 => by injection h9 with h9; have := B13.out.size; omega)
  have r_res14 : Hid (W14.heap[w.heap.size]? = some (.cells #[.slice ao_n L_n cap_n, .int .i64 st3.h.n, .string st3.h.r, .slice ao_m L_m cap_m, .int .i64 st3.s] 37 (0, 0))) := rowGro r_res13.out g14 (fun h9 => by injection h9 with h9; omega)
  have o_tx14 : Hid (Own W14 (lo_tx) (hi_tx) 9 (.slice ao_tx x.length cap_tx) (ss x)) := Own.gro o_tx13.out g14 (fun k9 h9 e9 => Own.neRow o_tx13.out r_rh13.out (by decide) (h9.trans e9.symm))
  have o_n14 : Hid (Own W14 (W9.heap.size) (W10.heap.size) 9 (.slice ao_n L_n cap_n) (ss st3.l)) := Own.gro o_n13.out g14 (fun k9 h9 e9 => Own.neRow o_n13.out r_rh13.out (by decide) (h9.trans e9.symm))
  have o_m14 : Hid (Own W14 (W9.heap.size) (W10.heap.size) 5 (.slice ao_m L_m cap_m) (bs st3.b)) := Own.gro o_m13.out g14 (fun k9 h9 e9 => Own.neRow o_m13.out r_rh13.out (by decide) (h9.trans e9.symm))
  clear r_res13 o_tx13 o_n13 o_m13
  clear r_rh13
  clear f_t13
  clear g14
  (refine wpAnyH_take (i := 7) (v := ?v7x76) rfl (by kernel_rfl) (by kernel_rfl) (by kernel_rfl) (fun _ _ _ h => h) (Or.inl ⟨by rfl, ?hy7x76⟩) (by assumption) ?rest7x76; case hy7x76 => (intro w hSw; (try dsimp only at hSw); go_split_ands; go_simp; (try with_reducible rfl)))
  try simp only [Act.put, pu1, pu2, pu3, pu4, pu5, pu6]
  refine wpAnyH_done (by kernel_rfl) ?_ _
  clear hHeld
  go_wp2
  exact bodyPost_ret (res_ctct rfl _ _ (w.heap.size) (w.heap.size + 1) 37 28 (sc (.slice ao_n L_n cap_n) (st3).h (.slice ao_m L_m cap_m) (st3).s) (hc M2) _ _ rfl r_res14.out Tryz.underlying37 rfl (sizeS _ _ _ _) rfl r_rh14.out Tryz.underlying28 rfl (sizeH M2)) rfl ⟨st3, t, M2, x, .slice ao_n L_n cap_n, .slice ao_m L_m cap_m, .slice ao_t t.length cap_t, .slice ao_tx x.length cap_tx, rfl, hA3, ht9, htz, hM3, by omega, fun s h9 => Nat.le_trans (hxz s h9) (by omega), o_n14.out.sl, o_m14.out.sl, f_t14.out.1.sh, o_tx14.out.sl, B14.out⟩
 ·
  have hy0b : (y2 == 0) = false := by rw [beq_eq_false_iff_ne]; exact hy0a
  by_cases hy1a : y2 = 1
  ·
   subst hy1a
   clear cu9 bw9
   obtain ⟨W10, HW10, b10, hS10, o_e210⟩ : ∃ X, Hid ((W9.alloc (.cells #[.string ⟨#[109, 111, 114, 101]⟩] 9)) = X) ∧ Below W9.heap.size W9 X ∧ Hid (X.heap.size = W9.heap.size + 1) ∧ Hid (Own X W9.heap.size X.heap.size 9 (.slice (some ⟨W9.heap.size, 0, none⟩) 1 1) (ss [⟨#[109, 111, 114, 101]⟩])) := ⟨_, rfl, (Below.refl _ _).alloc (Nat.le_refl _) _, (by show _ = _; simp), lit1S W9 W9.heap.size ⟨#[109, 111, 114, 101]⟩ (Nat.le_refl _)⟩
   have z10 : W9.heap.size ≤ W10.heap.size := b10.size
   have B10 : Hid (Below w.heap.size w W10) := B9.out.trans (b10.mono B9.out.size)
   have r_res10 : Hid (W10.heap[w.heap.size]? = some (.cells #[.slice none 0 0, .int .i64 0, .string ⟨#[]⟩, .slice none 0 0, .int .i64 0] 37 (0, 0))) := rowKeep r_res9.out b10
   have r_rh10 : Hid (W10.heap[w.heap.size + 1]? = some (.cells #[.int .i64 0, .string ⟨#[]⟩] 28 (0, 0))) := rowKeep r_rh9.out b10
   have r_x10 : Hid (W10.heap[W3.heap.size]? = some (.cells #[.slice ao_v st.l.length cap_v, .int .i64 st.h.n, .string st.h.r, .slice ao_u L_u cap_u, .int .i64 st.s] 37 (0, 0))) := rowKeep r_x9.out b10
   have r_h10 : Hid (W10.heap[W6.heap.size]? = some (.cells #[.int .i64 M2.n, .string M2.r] 28 (0, 0))) := rowKeep r_h9.out b10
   have o_v10 : Hid (Own W10 (W2.heap.size) (W3.heap.size) 9 (.slice ao_v st.l.length cap_v) (ss st.l)) := Own.later o_v9.out b10 (by omega)
   have o_u10 : Hid (Own W10 (W2.heap.size) (W3.heap.size) 5 (.slice ao_u L_u cap_u) (bs st.b)) := Own.later o_u9.out b10 (by omega)
   have o_tx10 : Hid (Own W10 (lo_tx) (hi_tx) 9 (.slice ao_tx x.length cap_tx) (ss x)) := Own.later o_tx9.out b10 (by omega)
   clear r_res9 r_rh9 r_x9 c_x9_0 c_x9_1 c_x9_2 c_x9_3 c_x9_4 r_h9 c_h9_0 c_h9_1 o_v9 o_u9 o_tx9
   have f_t10 : Hid (Oht W10 W2.heap.size W3.heap.size (.slice ao_t t.length cap_t) t) := Oht.later f_t9.out b10
   clear f_t9
   have c6_11 : (ss x).length + (ss [⟨#[109, 111, 114, 101]⟩]).length ≤ maxLen := by rw [ss_len, ss_len]; unfold maxLen; (try simp only [List.length_nil]); (try simp only [List.length_cons, List.length_nil]); omega
   have c7_11 : ((ss x).length + (ss [⟨#[109, 111, 114, 101]⟩]).length) * 16 ≤ 140737488355328 := by rw [ss_len, ss_len]; (try simp only [List.length_nil]); (try simp only [List.length_cons, List.length_nil]); omega
   have sE11 : Hid (Sl W10 _ (ss [⟨#[109, 111, 114, 101]⟩])) := o_e210.out.sl
   go_wp2_with (at_builtin; (try rw [HW10.out]); go_must (refine wpl_app _ rfl (.tmp 57) (.tmp 58) 24 rfl 9 i9 (.string ⟨#[]⟩) 16 Tryz.underlying24 hi9 hz9a hz9b hz9c rfl (lo_tx) _ (ss x) rfl (Own.mono o_tx10.out (Nat.le_refl _) (by omega)) _ rfl (ss [⟨#[109, 111, 114, 101]⟩]) sE11.out (ss_one [⟨#[109, 111, 114, 101]⟩]) c6_11 c7_11 (by omega) ?_))
   intro v_ty W11 o_ty11 _ g11
   have o_ty11 : Own W11 (lo_tx) W11.heap.size 9 v_ty (ss (x ++ [⟨#[109, 111, 114, 101]⟩])) := by show Own _ _ _ _ _ _; rw [ss_app]; exact o_ty11
   have o_ty11h : Hid (Own W11 (lo_tx) W11.heap.size 9 v_ty (ss (x ++ [⟨#[109, 111, 114, 101]⟩]))) := o_ty11
   have f_t11 : Hid (Oht W11 W2.heap.size W3.heap.size (.slice ao_t t.length cap_t) t) := Oht.gro f_t10.out g11 (Own.far o_tx10.out (by omega))
   clear o_ty11
   have o_ty11 := o_ty11h
   clear o_ty11h
   obtain ⟨ao_ty, L_ty, cap_ty, rfl, _, _⟩ := Mem.Own.form o_ty11.out
   have z11 : W10.heap.size ≤ W11.heap.size := g11.size
   have B11 : Hid (Below w.heap.size w W11) := belowGro B10.out g11 B10.out.size (Own.low o_tx10.out (by have := B10.out.size; omega))
   have r_res11 : Hid (W11.heap[w.heap.size]? = some (.cells #[.slice none 0 0, .int .i64 0, .string ⟨#[]⟩, .slice none 0 0, .int .i64 0] 37 (0, 0))) := rowGro r_res10.out g11 (Own.neRow o_tx10.out r_res10.out (by decide))
   have r_rh11 : Hid (W11.heap[w.heap.size + 1]? = some (.cells #[.int .i64 0, .string ⟨#[]⟩] 28 (0, 0))) := rowGro r_rh10.out g11 (Own.neRow o_tx10.out r_rh10.out (by decide))
   have r_x11 : Hid (W11.heap[W3.heap.size]? = some (.cells #[.slice ao_v st.l.length cap_v, .int .i64 st.h.n, .string st.h.r, .slice ao_u L_u cap_u, .int .i64 st.s] 37 (0, 0))) := rowGro r_x10.out g11 (Own.neRow o_tx10.out r_x10.out (by decide))
   have r_h11 : Hid (W11.heap[W6.heap.size]? = some (.cells #[.int .i64 M2.n, .string M2.r] 28 (0, 0))) := rowGro r_h10.out g11 (Own.neRow o_tx10.out r_h10.out (by decide))
   have o_v11 : Hid (Own W11 (W2.heap.size) (W3.heap.size) 9 (.slice ao_v st.l.length cap_v) (ss st.l)) := Own.gro o_v10.out g11 (Own.neFar o_tx10.out o_v10.out (by omega))
   have o_u11 : Hid (Own W11 (W2.heap.size) (W3.heap.size) 5 (.slice ao_u L_u cap_u) (bs st.b)) := Own.gro o_u10.out g11 (Own.neOwn o_tx10.out o_u10.out (by decide))
   have c_x11_0 : W11.cell? ⟨W3.heap.size, 0, none⟩ = some (.slice ao_v st.l.length cap_v) := row_at r_x11.out 0
   have c_x11_1 : W11.cell? ⟨W3.heap.size, 1, none⟩ = some (.int .i64 st.h.n) := row_at r_x11.out 1
   have c_x11_2 : W11.cell? ⟨W3.heap.size, 2, none⟩ = some (.string st.h.r) := row_at r_x11.out 2
   have c_x11_3 : W11.cell? ⟨W3.heap.size, 3, none⟩ = some (.slice ao_u L_u cap_u) := row_at r_x11.out 3
   have c_x11_4 : W11.cell? ⟨W3.heap.size, 4, none⟩ = some (.int .i64 st.s) := row_at r_x11.out 4
   have c_h11_0 : W11.cell? ⟨W6.heap.size, 0, none⟩ = some (.int .i64 M2.n) := row_at r_h11.out 0
   have c_h11_1 : W11.cell? ⟨W6.heap.size, 1, none⟩ = some (.string M2.r) := row_at r_h11.out 1
   clear r_res10 r_rh10 r_x10 r_h10 o_v10 o_u10 o_tx10 o_e210
   clear f_t10
   clear g11 sE11 c6_11 c7_11
   go_wp2_with fail
   refine wp_region_held_drew (S := fun w' => w'.cell? ⟨W3.heap.size, 0, none⟩ = some (.slice ao_v st.l.length cap_v) ∧ w'.cell? ⟨W3.heap.size, 1, none⟩ = some (.int .i64 st.h.n) ∧ w'.cell? ⟨W3.heap.size, 2, none⟩ = some (.string st.h.r) ∧ w'.cell? ⟨W3.heap.size, 3, none⟩ = some (.slice ao_u L_u cap_u) ∧ w'.cell? ⟨W3.heap.size, 4, none⟩ = some (.int .i64 st.s) ∧ w'.cell? ⟨W6.heap.size, 0, none⟩ = some (.int .i64 M2.n) ∧ w'.cell? ⟨W6.heap.size, 1, none⟩ = some (.string M2.r)) (by kernel_rfl) ⟨c_x11_0, c_x11_1, c_x11_2, c_x11_3, c_x11_4, c_h11_0, c_h11_1⟩ (fun hHeld => ?_)
   obtain ⟨W12, HW12, b12⟩ : ∃ X, Hid (W11.drew = X) ∧ Below W11.heap.size W11 X := ⟨_, rfl, Below.drew (Below.refl _ _)⟩
   have HHW12 := HW12.out
   rw [HHW12] at hHeld ⊢
   clear HHW12
   have B12 : Hid (Below w.heap.size w W12) := B11.out.trans (b12.mono B11.out.size)
   have r_res12 : Hid (W12.heap[w.heap.size]? = some (.cells #[.slice none 0 0, .int .i64 0, .string ⟨#[]⟩, .slice none 0 0, .int .i64 0] 37 (0, 0))) := rowKeep r_res11.out b12
   have r_rh12 : Hid (W12.heap[w.heap.size + 1]? = some (.cells #[.int .i64 0, .string ⟨#[]⟩] 28 (0, 0))) := rowKeep r_rh11.out b12
   have o_v12 : Hid (Own W12 (W2.heap.size) (W3.heap.size) 9 (.slice ao_v st.l.length cap_v) (ss st.l)) := Own.later o_v11.out b12 (by omega)
   have o_u12 : Hid (Own W12 (W2.heap.size) (W3.heap.size) 5 (.slice ao_u L_u cap_u) (bs st.b)) := Own.later o_u11.out b12 (by omega)
   have o_ty12 : Hid (Own W12 (lo_tx) (W11.heap.size) 9 (.slice ao_ty L_ty cap_ty) (ss (x ++ [⟨#[109, 111, 114, 101]⟩]))) := Own.later o_ty11.out b12 (by omega)
   clear r_res11 r_rh11 r_x11 c_x11_0 c_x11_1 c_x11_2 c_x11_3 c_x11_4 r_h11 c_h11_0 c_h11_1 o_v11 o_u11 o_ty11
   have f_t12 : Hid (Oht W12 W2.heap.size W3.heap.size (.slice ao_t t.length cap_t) t) := Oht.later f_t11.out b12
   clear f_t11
   (refine wpAnyH_take (i := 0) (v := ?v0x77) rfl (by kernel_rfl) (by kernel_rfl) (by kernel_rfl) (fun _ _ _ h => h) (Or.inl ⟨by rfl, ?hy0x77⟩) (by assumption) ?rest0x77; case hy0x77 => (intro w hSw; (try dsimp only at hSw); go_split_ands; go_simp; (try with_reducible rfl)))
   try simp only [Act.put, pu1, pu2, pu3, pu4, pu5, pu6]
   (refine wpAnyH_take (i := 1) (v := ?v1x78) rfl (by kernel_rfl) (by kernel_rfl) (by kernel_rfl) (fun _ _ _ h => h) (Or.inl ⟨by rfl, ?hy1x78⟩) (by assumption) ?rest1x78; case hy1x78 => (intro w hSw; (try dsimp only at hSw); go_split_ands; go_simp; (try with_reducible rfl)))
   try simp only [Act.put, pu1, pu2, pu3, pu4, pu5, pu6]
   (refine wpAnyH_take (i := 2) (v := ?v2x79) rfl (by kernel_rfl) (by kernel_rfl) (by kernel_rfl) (fun _ _ _ h => h) (Or.inl ⟨by rfl, ?hy2x79⟩) (by assumption) ?rest2x79; case hy2x79 => (intro w hSw; (try dsimp only at hSw); go_split_ands; go_simp; (try with_reducible rfl)))
   try simp only [Act.put, pu1, pu2, pu3, pu4, pu5, pu6]
   (refine wpAnyH_take (i := 3) (v := ?v3x80) rfl (by kernel_rfl) (by kernel_rfl) (by kernel_rfl) (fun _ _ _ h => h) (Or.inl ⟨by rfl, ?hy3x80⟩) (by assumption) ?rest3x80; case hy3x80 => (intro w hSw; (try dsimp only at hSw); go_split_ands; go_simp; (try with_reducible rfl)))
   try simp only [Act.put, pu1, pu2, pu3, pu4, pu5, pu6]
   refine wpAnyH_ready (rs := [4]) (by kernel_rfl) (by simp) ?_
   refine AllReadyH.cons rfl (fun K hK => ?_) AllReadyH.nil
   rw [if_pos (by rfl)]
   refine wp_partG 37 _ _ rfl (w.heap.size) 0 (sc (.slice ao_v st.l.length cap_v) (st).h (.slice ao_u L_u cap_u) (st).s) rfl rfl [.slice none 0 0, .int .i64 0, .string ⟨#[]⟩, .slice none 0 0, .int .i64 0] 37 r_res12.out (Nat.le_of_ble_eq_true rfl) (sizeS _ _ _ _) (oneS _ _ rfl rfl) [.slice ao_v st.l.length cap_v, .int .i64 st.h.n, .string st.h.r, .slice ao_u L_u cap_u, .int .i64 st.s] rfl ?_
   intro W13 r_res13 g13
   refine hK.out _ _ ⟨(cellGro hHeld.1 g13 (by show some (w.heap.size) ≠ some (W3.heap.size); intro h9; injection h9 with h9; omega)), (cellGro hHeld.2.1 g13 (by show some (w.heap.size) ≠ some (W3.heap.size); intro h9; injection h9 with h9; omega)), (cellGro hHeld.2.2.1 g13 (by show some (w.heap.size) ≠ some (W3.heap.size); intro h9; injection h9 with h9; omega)), (cellGro hHeld.2.2.2.1 g13 (by show some (w.heap.size) ≠ some (W3.heap.size); intro h9; injection h9 with h9; omega)), (cellGro hHeld.2.2.2.2.1 g13 (by show some (w.heap.size) ≠ some (W3.heap.size); intro h9; injection h9 with h9; omega)), (cellGro hHeld.2.2.2.2.2.1 g13 (by show some (w.heap.size) ≠ some (W6.heap.size); intro h9; injection h9 with h9; omega)), (cellGro hHeld.2.2.2.2.2.2 g13 (by show some (w.heap.size) ≠ some (W6.heap.size); intro h9; injection h9 with h9; omega))⟩ (fun hHeld => ?_)
   clear hK K
   try simp only [Act.put, pu1, pu2, pu3, pu4, pu5, pu6]
   have f_t13 : Hid (Oht W13 W2.heap.size W3.heap.size (.slice ao_t t.length cap_t) t) := Oht.gro f_t12.out g13 (fun k9 h9 => by injection h9 with h9; omega)
   have r_res13 : Hid (W13.heap[w.heap.size]? = some (.cells #[.slice ao_v st.l.length cap_v, .int .i64 st.h.n, .string st.h.r, .slice ao_u L_u cap_u, .int .i64 st.s] 37 (0, 0))) := r_res13
   have B13 : Hid (Below w.heap.size w W13) := belowGro B12.out g13 B12.out.size (fun k9 h9 => by injection h9 with h9; have := B12.out.size; omega)
   have r_rh13 : Hid (W13.heap[w.heap.size + 1]? = some (.cells #[.int .i64 0, .string ⟨#[]⟩] 28 (0, 0))) := rowGro r_rh12.out g13 (fun h9 => by injection h9 with h9; omega)
   have o_v13 : Hid (Own W13 (W2.heap.size) (W3.heap.size) 9 (.slice ao_v st.l.length cap_v) (ss st.l)) := Own.gro o_v12.out g13 (fun k9 h9 e9 => Own.neRow o_v12.out r_res12.out (by decide) (h9.trans e9.symm))
   have o_u13 : Hid (Own W13 (W2.heap.size) (W3.heap.size) 5 (.slice ao_u L_u cap_u) (bs st.b)) := Own.gro o_u12.out g13 (fun k9 h9 e9 => Own.neRow o_u12.out r_res12.out (by decide) (h9.trans e9.symm))
   have o_ty13 : Hid (Own W13 (lo_tx) (W11.heap.size) 9 (.slice ao_ty L_ty cap_ty) (ss (x ++ [⟨#[109, 111, 114, 101]⟩]))) := Own.gro o_ty12.out g13 (fun k9 h9 e9 => Own.neRow o_ty12.out r_res12.out (by decide) (h9.trans e9.symm))
   clear r_rh12 o_v12 o_u12 o_ty12
   clear r_res12
   clear f_t12
   clear g13
   (refine wpAnyH_take (i := 5) (v := ?v5x81) rfl (by kernel_rfl) (by kernel_rfl) (by kernel_rfl) (fun _ _ _ h => h) (Or.inl ⟨by rfl, ?hy5x81⟩) (by assumption) ?rest5x81; case hy5x81 => (intro w hSw; (try dsimp only at hSw); go_split_ands; go_simp; (try with_reducible rfl)))
   try simp only [Act.put, pu1, pu2, pu3, pu4, pu5, pu6]
   refine wpAnyH_ready (rs := [6]) (by kernel_rfl) (by simp) ?_
   refine AllReadyH.cons rfl (fun K hK => ?_) AllReadyH.nil
   rw [if_pos (by rfl)]
   refine wp_partG 28 _ _ rfl (w.heap.size + 1) 0 (hc M2) rfl rfl [.int .i64 0, .string ⟨#[]⟩] 28 r_rh13.out (Nat.le_of_ble_eq_true rfl) (sizeH _) (oneH _) [.int .i64 M2.n, .string M2.r] rfl ?_
   intro W14 r_rh14 g14
   refine hK.out _ _ ⟨(cellGro hHeld.1 g14 (by show some (w.heap.size + 1) ≠ some (W3.heap.size); intro h9; injection h9 with h9; omega)), (cellGro hHeld.2.1 g14 (by show some (w.heap.size + 1) ≠ some (W3.heap.size); intro h9; injection h9 with h9; omega)), (cellGro hHeld.2.2.1 g14 (by show some (w.heap.size + 1) ≠ some (W3.heap.size); intro h9; injection h9 with h9; omega)), (cellGro hHeld.2.2.2.1 g14 (by show some (w.heap.size + 1) ≠ some (W3.heap.size); intro h9; injection h9 with h9; omega)), (cellGro hHeld.2.2.2.2.1 g14 (by show some (w.heap.size + 1) ≠ some (W3.heap.size); intro h9; injection h9 with h9; omega)), (cellGro hHeld.2.2.2.2.2.1 g14 (by show some (w.heap.size + 1) ≠ some (W6.heap.size); intro h9; injection h9 with h9; omega)), (cellGro hHeld.2.2.2.2.2.2 g14 (by show some (w.heap.size + 1) ≠ some (W6.heap.size); intro h9; injection h9 with h9; omega))⟩ (fun hHeld => ?_)
   clear hK K
   try simp only [Act.put, pu1, pu2, pu3, pu4, pu5, pu6]
   have f_t14 : Hid (Oht W14 W2.heap.size W3.heap.size (.slice ao_t t.length cap_t) t) := Oht.gro f_t13.out g14 (fun k9 h9 => by injection h9 with h9; omega)
   have r_rh14 : Hid (W14.heap[w.heap.size + 1]? = some (.cells #[.int .i64 M2.n, .string M2.r] 28 (0, 0))) := r_rh14
   have B14 : Hid (Below w.heap.size w W14) := belowGro B13.out g14 B13.out.size (fun k9 h9 => by injection h9 with h9; have := B13.out.size; omega)
   have r_res14 : Hid (W14.heap[w.heap.size]? = some (.cells #[.slice ao_v st.l.length cap_v, .int .i64 st.h.n, .string st.h.r, .slice ao_u L_u cap_u, .int .i64 st.s] 37 (0, 0))) := rowGro r_res13.out g14 (fun h9 => by injection h9 with h9; omega)
   have o_v14 : Hid (Own W14 (W2.heap.size) (W3.heap.size) 9 (.slice ao_v st.l.length cap_v) (ss st.l)) := Own.gro o_v13.out g14 (fun k9 h9 e9 => Own.neRow o_v13.out r_rh13.out (by decide) (h9.trans e9.symm))
   have o_u14 : Hid (Own W14 (W2.heap.size) (W3.heap.size) 5 (.slice ao_u L_u cap_u) (bs st.b)) := Own.gro o_u13.out g14 (fun k9 h9 e9 => Own.neRow o_u13.out r_rh13.out (by decide) (h9.trans e9.symm))
   have o_ty14 : Hid (Own W14 (lo_tx) (W11.heap.size) 9 (.slice ao_ty L_ty cap_ty) (ss (x ++ [⟨#[109, 111, 114, 101]⟩]))) := Own.gro o_ty13.out g14 (fun k9 h9 e9 => Own.neRow o_ty13.out r_rh13.out (by decide) (h9.trans e9.symm))
   clear r_res13 o_v13 o_u13 o_ty13
   clear r_rh13
   clear f_t13
   clear g14
   (refine wpAnyH_take (i := 7) (v := ?v7x82) rfl (by kernel_rfl) (by kernel_rfl) (by kernel_rfl) (fun _ _ _ h => h) (Or.inl ⟨by rfl, ?hy7x82⟩) (by assumption) ?rest7x82; case hy7x82 => (intro w hSw; (try dsimp only at hSw); go_split_ands; go_simp; (try with_reducible rfl)))
   try simp only [Act.put, pu1, pu2, pu3, pu4, pu5, pu6]
   refine wpAnyH_done (by kernel_rfl) ?_ _
   clear hHeld
   go_wp2
   exact bodyPost_ret (res_ctct rfl _ _ (w.heap.size) (w.heap.size + 1) 37 28 (sc (.slice ao_v st.l.length cap_v) (st).h (.slice ao_u L_u cap_u) (st).s) (hc M2) _ _ rfl r_res14.out Tryz.underlying37 rfl (sizeS _ _ _ _) rfl r_rh14.out Tryz.underlying28 rfl (sizeH M2)) rfl ⟨st, t, M2, x ++ [⟨#[109, 111, 114, 101]⟩], .slice ao_v st.l.length cap_v, .slice ao_u L_u cap_u, .slice ao_t t.length cap_t, .slice ao_ty L_ty cap_ty, rfl, HA.out, ht9, htz, hM3, by simp only [List.length_append, List.length_cons, List.length_nil]; omega, fun s h9 => by rcases List.mem_append.1 h9 with h8 | h8; exact Nat.le_trans (hxz s h8) (by omega); rw [List.mem_singleton.1 h8]; exact Nat.le_refl 4, o_v14.out.sl, o_u14.out.sl, f_t14.out.1.sh, o_ty14.out.sl, B14.out⟩
  ·
   have hy1b : (y2 == 1) = false := by rw [beq_eq_false_iff_ne]; exact hy1a
   by_cases hy2a : y2 = 2
   ·
    subst hy2a
    clear cu9 bw9
    by_cases hx0 : x.length = 0
    ·
     have dx : ¬ (0 : Int) < (x.length : Int) := by omega
     clear hx0
     go_wp2_with fail
     refine wp_region_held_drew (S := fun w' => w'.cell? ⟨W3.heap.size, 0, none⟩ = some (.slice ao_v st.l.length cap_v) ∧ w'.cell? ⟨W3.heap.size, 1, none⟩ = some (.int .i64 st.h.n) ∧ w'.cell? ⟨W3.heap.size, 2, none⟩ = some (.string st.h.r) ∧ w'.cell? ⟨W3.heap.size, 3, none⟩ = some (.slice ao_u L_u cap_u) ∧ w'.cell? ⟨W3.heap.size, 4, none⟩ = some (.int .i64 st.s) ∧ w'.cell? ⟨W6.heap.size, 0, none⟩ = some (.int .i64 M2.n) ∧ w'.cell? ⟨W6.heap.size, 1, none⟩ = some (.string M2.r)) (by kernel_rfl) ⟨c_x9_0, c_x9_1, c_x9_2, c_x9_3, c_x9_4, c_h9_0, c_h9_1⟩ (fun hHeld => ?_)
     obtain ⟨W10, HW10, b10⟩ : ∃ X, Hid (W9.drew = X) ∧ Below W9.heap.size W9 X := ⟨_, rfl, Below.drew (Below.refl _ _)⟩
     have HHW10 := HW10.out
     rw [HHW10] at hHeld ⊢
     clear HHW10
     have B10 : Hid (Below w.heap.size w W10) := B9.out.trans (b10.mono B9.out.size)
     have r_res10 : Hid (W10.heap[w.heap.size]? = some (.cells #[.slice none 0 0, .int .i64 0, .string ⟨#[]⟩, .slice none 0 0, .int .i64 0] 37 (0, 0))) := rowKeep r_res9.out b10
     have r_rh10 : Hid (W10.heap[w.heap.size + 1]? = some (.cells #[.int .i64 0, .string ⟨#[]⟩] 28 (0, 0))) := rowKeep r_rh9.out b10
     have o_v10 : Hid (Own W10 (W2.heap.size) (W3.heap.size) 9 (.slice ao_v st.l.length cap_v) (ss st.l)) := Own.later o_v9.out b10 (by omega)
     have o_u10 : Hid (Own W10 (W2.heap.size) (W3.heap.size) 5 (.slice ao_u L_u cap_u) (bs st.b)) := Own.later o_u9.out b10 (by omega)
     have o_tx10 : Hid (Own W10 (lo_tx) (hi_tx) 9 (.slice ao_tx x.length cap_tx) (ss x)) := Own.later o_tx9.out b10 (by omega)
     clear r_res9 r_rh9 r_x9 c_x9_0 c_x9_1 c_x9_2 c_x9_3 c_x9_4 r_h9 c_h9_0 c_h9_1 o_v9 o_u9 o_tx9
     have f_t10 : Hid (Oht W10 W2.heap.size W3.heap.size (.slice ao_t t.length cap_t) t) := Oht.later f_t9.out b10
     clear f_t9
     (refine wpAnyH_take (i := 0) (v := ?v0x83) rfl (by kernel_rfl) (by kernel_rfl) (by kernel_rfl) (fun _ _ _ h => h) (Or.inl ⟨by rfl, ?hy0x83⟩) (by assumption) ?rest0x83; case hy0x83 => (intro w hSw; (try dsimp only at hSw); go_split_ands; go_simp; (try with_reducible rfl)))
     try simp only [Act.put, pu1, pu2, pu3, pu4, pu5, pu6]
     (refine wpAnyH_take (i := 1) (v := ?v1x84) rfl (by kernel_rfl) (by kernel_rfl) (by kernel_rfl) (fun _ _ _ h => h) (Or.inl ⟨by rfl, ?hy1x84⟩) (by assumption) ?rest1x84; case hy1x84 => (intro w hSw; (try dsimp only at hSw); go_split_ands; go_simp; (try with_reducible rfl)))
     try simp only [Act.put, pu1, pu2, pu3, pu4, pu5, pu6]
     (refine wpAnyH_take (i := 2) (v := ?v2x85) rfl (by kernel_rfl) (by kernel_rfl) (by kernel_rfl) (fun _ _ _ h => h) (Or.inl ⟨by rfl, ?hy2x85⟩) (by assumption) ?rest2x85; case hy2x85 => (intro w hSw; (try dsimp only at hSw); go_split_ands; go_simp; (try with_reducible rfl)))
     try simp only [Act.put, pu1, pu2, pu3, pu4, pu5, pu6]
     (refine wpAnyH_take (i := 3) (v := ?v3x86) rfl (by kernel_rfl) (by kernel_rfl) (by kernel_rfl) (fun _ _ _ h => h) (Or.inl ⟨by rfl, ?hy3x86⟩) (by assumption) ?rest3x86; case hy3x86 => (intro w hSw; (try dsimp only at hSw); go_split_ands; go_simp; (try with_reducible rfl)))
     try simp only [Act.put, pu1, pu2, pu3, pu4, pu5, pu6]
     refine wpAnyH_ready (rs := [4]) (by kernel_rfl) (by simp) ?_
     refine AllReadyH.cons rfl (fun K hK => ?_) AllReadyH.nil
     rw [if_pos (by rfl)]
     refine wp_partG 37 _ _ rfl (w.heap.size) 0 (sc (.slice ao_v st.l.length cap_v) (st).h (.slice ao_u L_u cap_u) (st).s) rfl rfl [.slice none 0 0, .int .i64 0, .string ⟨#[]⟩, .slice none 0 0, .int .i64 0] 37 r_res10.out (Nat.le_of_ble_eq_true rfl) (sizeS _ _ _ _) (oneS _ _ rfl rfl) [.slice ao_v st.l.length cap_v, .int .i64 st.h.n, .string st.h.r, .slice ao_u L_u cap_u, .int .i64 st.s] rfl ?_
     intro W11 r_res11 g11
     refine hK.out _ _ ⟨(cellGro hHeld.1 g11 (by show some (w.heap.size) ≠ some (W3.heap.size); intro h9; injection h9 with h9; omega)), (cellGro hHeld.2.1 g11 (by show some (w.heap.size) ≠ some (W3.heap.size); intro h9; injection h9 with h9; omega)), (cellGro hHeld.2.2.1 g11 (by show some (w.heap.size) ≠ some (W3.heap.size); intro h9; injection h9 with h9; omega)), (cellGro hHeld.2.2.2.1 g11 (by show some (w.heap.size) ≠ some (W3.heap.size); intro h9; injection h9 with h9; omega)), (cellGro hHeld.2.2.2.2.1 g11 (by show some (w.heap.size) ≠ some (W3.heap.size); intro h9; injection h9 with h9; omega)), (cellGro hHeld.2.2.2.2.2.1 g11 (by show some (w.heap.size) ≠ some (W6.heap.size); intro h9; injection h9 with h9; omega)), (cellGro hHeld.2.2.2.2.2.2 g11 (by show some (w.heap.size) ≠ some (W6.heap.size); intro h9; injection h9 with h9; omega))⟩ (fun hHeld => ?_)
     clear hK K
     try simp only [Act.put, pu1, pu2, pu3, pu4, pu5, pu6]
     have f_t11 : Hid (Oht W11 W2.heap.size W3.heap.size (.slice ao_t t.length cap_t) t) := Oht.gro f_t10.out g11 (fun k9 h9 => by injection h9 with h9; omega)
     have r_res11 : Hid (W11.heap[w.heap.size]? = some (.cells #[.slice ao_v st.l.length cap_v, .int .i64 st.h.n, .string st.h.r, .slice ao_u L_u cap_u, .int .i64 st.s] 37 (0, 0))) := r_res11
     have B11 : Hid (Below w.heap.size w W11) := belowGro B10.out g11 B10.out.size (fun k9 h9 => by injection h9 with h9; have := B10.out.size; omega)
     have r_rh11 : Hid (W11.heap[w.heap.size + 1]? = some (.cells #[.int .i64 0, .string ⟨#[]⟩] 28 (0, 0))) := rowGro r_rh10.out g11 (fun h9 => by injection h9 with h9; omega)
     have o_v11 : Hid (Own W11 (W2.heap.size) (W3.heap.size) 9 (.slice ao_v st.l.length cap_v) (ss st.l)) := Own.gro o_v10.out g11 (fun k9 h9 e9 => Own.neRow o_v10.out r_res10.out (by decide) (h9.trans e9.symm))
     have o_u11 : Hid (Own W11 (W2.heap.size) (W3.heap.size) 5 (.slice ao_u L_u cap_u) (bs st.b)) := Own.gro o_u10.out g11 (fun k9 h9 e9 => Own.neRow o_u10.out r_res10.out (by decide) (h9.trans e9.symm))
     have o_tx11 : Hid (Own W11 (lo_tx) (hi_tx) 9 (.slice ao_tx x.length cap_tx) (ss x)) := Own.gro o_tx10.out g11 (fun k9 h9 e9 => Own.neRow o_tx10.out r_res10.out (by decide) (h9.trans e9.symm))
     clear r_rh10 o_v10 o_u10 o_tx10
     clear r_res10
     clear f_t10
     clear g11
     (refine wpAnyH_take (i := 5) (v := ?v5x87) rfl (by kernel_rfl) (by kernel_rfl) (by kernel_rfl) (fun _ _ _ h => h) (Or.inl ⟨by rfl, ?hy5x87⟩) (by assumption) ?rest5x87; case hy5x87 => (intro w hSw; (try dsimp only at hSw); go_split_ands; go_simp; (try with_reducible rfl)))
     try simp only [Act.put, pu1, pu2, pu3, pu4, pu5, pu6]
     refine wpAnyH_ready (rs := [6]) (by kernel_rfl) (by simp) ?_
     refine AllReadyH.cons rfl (fun K hK => ?_) AllReadyH.nil
     rw [if_pos (by rfl)]
     refine wp_partG 28 _ _ rfl (w.heap.size + 1) 0 (hc M2) rfl rfl [.int .i64 0, .string ⟨#[]⟩] 28 r_rh11.out (Nat.le_of_ble_eq_true rfl) (sizeH _) (oneH _) [.int .i64 M2.n, .string M2.r] rfl ?_
     intro W12 r_rh12 g12
     refine hK.out _ _ ⟨(cellGro hHeld.1 g12 (by show some (w.heap.size + 1) ≠ some (W3.heap.size); intro h9; injection h9 with h9; omega)), (cellGro hHeld.2.1 g12 (by show some (w.heap.size + 1) ≠ some (W3.heap.size); intro h9; injection h9 with h9; omega)), (cellGro hHeld.2.2.1 g12 (by show some (w.heap.size + 1) ≠ some (W3.heap.size); intro h9; injection h9 with h9; omega)), (cellGro hHeld.2.2.2.1 g12 (by show some (w.heap.size + 1) ≠ some (W3.heap.size); intro h9; injection h9 with h9; omega)), (cellGro hHeld.2.2.2.2.1 g12 (by show some (w.heap.size + 1) ≠ some (W3.heap.size); intro h9; injection h9 with h9; omega)), (cellGro hHeld.2.2.2.2.2.1 g12 (by show some (w.heap.size + 1) ≠ some (W6.heap.size); intro h9; injection h9 with h9; omega)), (cellGro hHeld.2.2.2.2.2.2 g12 (by show some (w.heap.size + 1) ≠ some (W6.heap.size); intro h9; injection h9 with h9; omega))⟩ (fun hHeld => ?_)
     clear hK K
     try simp only [Act.put, pu1, pu2, pu3, pu4, pu5, pu6]
     have f_t12 : Hid (Oht W12 W2.heap.size W3.heap.size (.slice ao_t t.length cap_t) t) := Oht.gro f_t11.out g12 (fun k9 h9 => by injection h9 with h9; omega)
     have r_rh12 : Hid (W12.heap[w.heap.size + 1]? = some (.cells #[.int .i64 M2.n, .string M2.r] 28 (0, 0))) := r_rh12
     have B12 : Hid (Below w.heap.size w W12) := belowGro B11.out g12 B11.out.size (fun k9 h9 => by injection h9 with h9; have := B11.out.size; omega)
     have r_res12 : Hid (W12.heap[w.heap.size]? = some (.cells #[.slice ao_v st.l.length cap_v, .int .i64 st.h.n, .string st.h.r, .slice ao_u L_u cap_u, .int .i64 st.s] 37 (0, 0))) := rowGro r_res11.out g12 (fun h9 => by injection h9 with h9; omega)
     have o_v12 : Hid (Own W12 (W2.heap.size) (W3.heap.size) 9 (.slice ao_v st.l.length cap_v) (ss st.l)) := Own.gro o_v11.out g12 (fun k9 h9 e9 => Own.neRow o_v11.out r_rh11.out (by decide) (h9.trans e9.symm))
     have o_u12 : Hid (Own W12 (W2.heap.size) (W3.heap.size) 5 (.slice ao_u L_u cap_u) (bs st.b)) := Own.gro o_u11.out g12 (fun k9 h9 e9 => Own.neRow o_u11.out r_rh11.out (by decide) (h9.trans e9.symm))
     have o_tx12 : Hid (Own W12 (lo_tx) (hi_tx) 9 (.slice ao_tx x.length cap_tx) (ss x)) := Own.gro o_tx11.out g12 (fun k9 h9 e9 => Own.neRow o_tx11.out r_rh11.out (by decide) (h9.trans e9.symm))
     clear r_res11 o_v11 o_u11 o_tx11
     clear r_rh11
     clear f_t11
     clear g12
     (refine wpAnyH_take (i := 7) (v := ?v7x88) rfl (by kernel_rfl) (by kernel_rfl) (by kernel_rfl) (fun _ _ _ h => h) (Or.inl ⟨by rfl, ?hy7x88⟩) (by assumption) ?rest7x88; case hy7x88 => (intro w hSw; (try dsimp only at hSw); go_split_ands; go_simp; (try with_reducible rfl)))
     try simp only [Act.put, pu1, pu2, pu3, pu4, pu5, pu6]
     refine wpAnyH_done (by kernel_rfl) ?_ _
     clear hHeld
     go_wp2
     exact bodyPost_ret (res_ctct rfl _ _ (w.heap.size) (w.heap.size + 1) 37 28 (sc (.slice ao_v st.l.length cap_v) (st).h (.slice ao_u L_u cap_u) (st).s) (hc M2) _ _ rfl r_res12.out Tryz.underlying37 rfl (sizeS _ _ _ _) rfl r_rh12.out Tryz.underlying28 rfl (sizeH M2)) rfl ⟨st, t, M2, x, .slice ao_v st.l.length cap_v, .slice ao_u L_u cap_u, .slice ao_t t.length cap_t, .slice ao_tx x.length cap_tx, rfl, HA.out, ht9, htz, hM3, by omega, fun s h9 => Nat.le_trans (hxz s h9) (by omega), o_v12.out.sl, o_u12.out.sl, f_t12.out.1.sh, o_tx12.out.sl, B12.out⟩
    ·
     have dx : (0 : Int) < (x.length : Int) := by omega
     obtain ⟨gt, rfl, hgt1, hgt2, curT, hcurT, _⟩ := Own.blockG o_tx9.out (by omega)
     clear hcurT
     go_wp2_with (refine wpl_elemG rfl 9 _ _ rfl (k := 0) o_tx9.out (by rw [ss_len]; omega) (.string ⟨#[98, 101, 110, 116]⟩) rfl rfl (by kernel_rfl) rfl ?_)
     intro W10 o_tx10 g10
     have o_tx10 : Own W10 (lo_tx) (hi_tx) 9 (.slice (some ⟨gt, 0, none⟩) x.length cap_tx) (ss (x.set 0 ⟨#[98, 101, 110, 116]⟩)) := by rw [show ss (x.set 0 ⟨#[98, 101, 110, 116]⟩) = (ss x).set 0 (.string ⟨#[98, 101, 110, 116]⟩) by simp [ss, List.map_set]]; exact o_tx10
     have f_t10 : Hid (Oht W10 W2.heap.size W3.heap.size (.slice ao_t t.length cap_t) t) := Oht.gro f_t9.out g10 (Own.far o_tx9.out (by omega))
     have o_tx10 : Hid (Own W10 (lo_tx) (hi_tx) 9 (.slice (some ⟨gt, 0, none⟩) x.length cap_tx) (ss (x.set 0 ⟨#[98, 101, 110, 116]⟩))) := o_tx10
     have z10 : W9.heap.size ≤ W10.heap.size := g10.size
     have B10 : Hid (Below w.heap.size w W10) := belowGro B9.out g10 B9.out.size (Own.low o_tx9.out (by have := B9.out.size; omega))
     have r_res10 : Hid (W10.heap[w.heap.size]? = some (.cells #[.slice none 0 0, .int .i64 0, .string ⟨#[]⟩, .slice none 0 0, .int .i64 0] 37 (0, 0))) := rowGro r_res9.out g10 (Own.neRow o_tx9.out r_res9.out (by decide))
     have r_rh10 : Hid (W10.heap[w.heap.size + 1]? = some (.cells #[.int .i64 0, .string ⟨#[]⟩] 28 (0, 0))) := rowGro r_rh9.out g10 (Own.neRow o_tx9.out r_rh9.out (by decide))
     have r_x10 : Hid (W10.heap[W3.heap.size]? = some (.cells #[.slice ao_v st.l.length cap_v, .int .i64 st.h.n, .string st.h.r, .slice ao_u L_u cap_u, .int .i64 st.s] 37 (0, 0))) := rowGro r_x9.out g10 (Own.neRow o_tx9.out r_x9.out (by decide))
     have r_h10 : Hid (W10.heap[W6.heap.size]? = some (.cells #[.int .i64 M2.n, .string M2.r] 28 (0, 0))) := rowGro r_h9.out g10 (Own.neRow o_tx9.out r_h9.out (by decide))
     have o_v10 : Hid (Own W10 (W2.heap.size) (W3.heap.size) 9 (.slice ao_v st.l.length cap_v) (ss st.l)) := Own.gro o_v9.out g10 (Own.neFar o_tx9.out o_v9.out (by omega))
     have o_u10 : Hid (Own W10 (W2.heap.size) (W3.heap.size) 5 (.slice ao_u L_u cap_u) (bs st.b)) := Own.gro o_u9.out g10 (Own.neOwn o_tx9.out o_u9.out (by decide))
     have c_x10_0 : W10.cell? ⟨W3.heap.size, 0, none⟩ = some (.slice ao_v st.l.length cap_v) := row_at r_x10.out 0
     have c_x10_1 : W10.cell? ⟨W3.heap.size, 1, none⟩ = some (.int .i64 st.h.n) := row_at r_x10.out 1
     have c_x10_2 : W10.cell? ⟨W3.heap.size, 2, none⟩ = some (.string st.h.r) := row_at r_x10.out 2
     have c_x10_3 : W10.cell? ⟨W3.heap.size, 3, none⟩ = some (.slice ao_u L_u cap_u) := row_at r_x10.out 3
     have c_x10_4 : W10.cell? ⟨W3.heap.size, 4, none⟩ = some (.int .i64 st.s) := row_at r_x10.out 4
     have c_h10_0 : W10.cell? ⟨W6.heap.size, 0, none⟩ = some (.int .i64 M2.n) := row_at r_h10.out 0
     have c_h10_1 : W10.cell? ⟨W6.heap.size, 1, none⟩ = some (.string M2.r) := row_at r_h10.out 1
     clear r_res9 r_rh9 r_x9 c_x9_0 c_x9_1 c_x9_2 c_x9_3 c_x9_4 r_h9 c_h9_0 c_h9_1 o_v9 o_u9 o_tx9
     clear f_t9
     clear g10
     go_wp2_with fail
     refine wp_region_held_drew (S := fun w' => w'.cell? ⟨W3.heap.size, 0, none⟩ = some (.slice ao_v st.l.length cap_v) ∧ w'.cell? ⟨W3.heap.size, 1, none⟩ = some (.int .i64 st.h.n) ∧ w'.cell? ⟨W3.heap.size, 2, none⟩ = some (.string st.h.r) ∧ w'.cell? ⟨W3.heap.size, 3, none⟩ = some (.slice ao_u L_u cap_u) ∧ w'.cell? ⟨W3.heap.size, 4, none⟩ = some (.int .i64 st.s) ∧ w'.cell? ⟨W6.heap.size, 0, none⟩ = some (.int .i64 M2.n) ∧ w'.cell? ⟨W6.heap.size, 1, none⟩ = some (.string M2.r)) (by kernel_rfl) ⟨c_x10_0, c_x10_1, c_x10_2, c_x10_3, c_x10_4, c_h10_0, c_h10_1⟩ (fun hHeld => ?_)
     obtain ⟨W11, HW11, b11⟩ : ∃ X, Hid (W10.drew = X) ∧ Below W10.heap.size W10 X := ⟨_, rfl, Below.drew (Below.refl _ _)⟩
     have HHW11 := HW11.out
     rw [HHW11] at hHeld ⊢
     clear HHW11
     have B11 : Hid (Below w.heap.size w W11) := B10.out.trans (b11.mono B10.out.size)
     have r_res11 : Hid (W11.heap[w.heap.size]? = some (.cells #[.slice none 0 0, .int .i64 0, .string ⟨#[]⟩, .slice none 0 0, .int .i64 0] 37 (0, 0))) := rowKeep r_res10.out b11
     have r_rh11 : Hid (W11.heap[w.heap.size + 1]? = some (.cells #[.int .i64 0, .string ⟨#[]⟩] 28 (0, 0))) := rowKeep r_rh10.out b11
     have o_v11 : Hid (Own W11 (W2.heap.size) (W3.heap.size) 9 (.slice ao_v st.l.length cap_v) (ss st.l)) := Own.later o_v10.out b11 (by omega)
     have o_u11 : Hid (Own W11 (W2.heap.size) (W3.heap.size) 5 (.slice ao_u L_u cap_u) (bs st.b)) := Own.later o_u10.out b11 (by omega)
     have o_tx11 : Hid (Own W11 (lo_tx) (hi_tx) 9 (.slice (some ⟨gt, 0, none⟩) x.length cap_tx) (ss (x.set 0 ⟨#[98, 101, 110, 116]⟩))) := Own.later o_tx10.out b11 (by omega)
     clear r_res10 r_rh10 r_x10 c_x10_0 c_x10_1 c_x10_2 c_x10_3 c_x10_4 r_h10 c_h10_0 c_h10_1 o_v10 o_u10 o_tx10
     have f_t11 : Hid (Oht W11 W2.heap.size W3.heap.size (.slice ao_t t.length cap_t) t) := Oht.later f_t10.out b11
     clear f_t10
     (refine wpAnyH_take (i := 0) (v := ?v0x89) rfl (by kernel_rfl) (by kernel_rfl) (by kernel_rfl) (fun _ _ _ h => h) (Or.inl ⟨by rfl, ?hy0x89⟩) (by assumption) ?rest0x89; case hy0x89 => (intro w hSw; (try dsimp only at hSw); go_split_ands; go_simp; (try with_reducible rfl)))
     try simp only [Act.put, pu1, pu2, pu3, pu4, pu5, pu6]
     (refine wpAnyH_take (i := 1) (v := ?v1x90) rfl (by kernel_rfl) (by kernel_rfl) (by kernel_rfl) (fun _ _ _ h => h) (Or.inl ⟨by rfl, ?hy1x90⟩) (by assumption) ?rest1x90; case hy1x90 => (intro w hSw; (try dsimp only at hSw); go_split_ands; go_simp; (try with_reducible rfl)))
     try simp only [Act.put, pu1, pu2, pu3, pu4, pu5, pu6]
     (refine wpAnyH_take (i := 2) (v := ?v2x91) rfl (by kernel_rfl) (by kernel_rfl) (by kernel_rfl) (fun _ _ _ h => h) (Or.inl ⟨by rfl, ?hy2x91⟩) (by assumption) ?rest2x91; case hy2x91 => (intro w hSw; (try dsimp only at hSw); go_split_ands; go_simp; (try with_reducible rfl)))
     try simp only [Act.put, pu1, pu2, pu3, pu4, pu5, pu6]
     (refine wpAnyH_take (i := 3) (v := ?v3x92) rfl (by kernel_rfl) (by kernel_rfl) (by kernel_rfl) (fun _ _ _ h => h) (Or.inl ⟨by rfl, ?hy3x92⟩) (by assumption) ?rest3x92; case hy3x92 => (intro w hSw; (try dsimp only at hSw); go_split_ands; go_simp; (try with_reducible rfl)))
     try simp only [Act.put, pu1, pu2, pu3, pu4, pu5, pu6]
     refine wpAnyH_ready (rs := [4]) (by kernel_rfl) (by simp) ?_
     refine AllReadyH.cons rfl (fun K hK => ?_) AllReadyH.nil
     rw [if_pos (by rfl)]
     refine wp_partG 37 _ _ rfl (w.heap.size) 0 (sc (.slice ao_v st.l.length cap_v) (st).h (.slice ao_u L_u cap_u) (st).s) rfl rfl [.slice none 0 0, .int .i64 0, .string ⟨#[]⟩, .slice none 0 0, .int .i64 0] 37 r_res11.out (Nat.le_of_ble_eq_true rfl) (sizeS _ _ _ _) (oneS _ _ rfl rfl) [.slice ao_v st.l.length cap_v, .int .i64 st.h.n, .string st.h.r, .slice ao_u L_u cap_u, .int .i64 st.s] rfl ?_
     intro W12 r_res12 g12
     refine hK.out _ _ ⟨(cellGro hHeld.1 g12 (by show some (w.heap.size) ≠ some (W3.heap.size); intro h9; injection h9 with h9; omega)), (cellGro hHeld.2.1 g12 (by show some (w.heap.size) ≠ some (W3.heap.size); intro h9; injection h9 with h9; omega)), (cellGro hHeld.2.2.1 g12 (by show some (w.heap.size) ≠ some (W3.heap.size); intro h9; injection h9 with h9; omega)), (cellGro hHeld.2.2.2.1 g12 (by show some (w.heap.size) ≠ some (W3.heap.size); intro h9; injection h9 with h9; omega)), (cellGro hHeld.2.2.2.2.1 g12 (by show some (w.heap.size) ≠ some (W3.heap.size); intro h9; injection h9 with h9; omega)), (cellGro hHeld.2.2.2.2.2.1 g12 (by show some (w.heap.size) ≠ some (W6.heap.size); intro h9; injection h9 with h9; omega)), (cellGro hHeld.2.2.2.2.2.2 g12 (by show some (w.heap.size) ≠ some (W6.heap.size); intro h9; injection h9 with h9; omega))⟩ (fun hHeld => ?_)
     clear hK K
     try simp only [Act.put, pu1, pu2, pu3, pu4, pu5, pu6]
     have f_t12 : Hid (Oht W12 W2.heap.size W3.heap.size (.slice ao_t t.length cap_t) t) := Oht.gro f_t11.out g12 (fun k9 h9 => by injection h9 with h9; omega)
     have r_res12 : Hid (W12.heap[w.heap.size]? = some (.cells #[.slice ao_v st.l.length cap_v, .int .i64 st.h.n, .string st.h.r, .slice ao_u L_u cap_u, .int .i64 st.s] 37 (0, 0))) := r_res12
     have B12 : Hid (Below w.heap.size w W12) := belowGro B11.out g12 B11.out.size (fun k9 h9 => by injection h9 with h9; have := B11.out.size; omega)
     have r_rh12 : Hid (W12.heap[w.heap.size + 1]? = some (.cells #[.int .i64 0, .string ⟨#[]⟩] 28 (0, 0))) := rowGro r_rh11.out g12 (fun h9 => by injection h9 with h9; omega)
     have o_v12 : Hid (Own W12 (W2.heap.size) (W3.heap.size) 9 (.slice ao_v st.l.length cap_v) (ss st.l)) := Own.gro o_v11.out g12 (fun k9 h9 e9 => Own.neRow o_v11.out r_res11.out (by decide) (h9.trans e9.symm))
     have o_u12 : Hid (Own W12 (W2.heap.size) (W3.heap.size) 5 (.slice ao_u L_u cap_u) (bs st.b)) := Own.gro o_u11.out g12 (fun k9 h9 e9 => Own.neRow o_u11.out r_res11.out (by decide) (h9.trans e9.symm))
     have o_tx12 : Hid (Own W12 (lo_tx) (hi_tx) 9 (.slice (some ⟨gt, 0, none⟩) x.length cap_tx) (ss (x.set 0 ⟨#[98, 101, 110, 116]⟩))) := Own.gro o_tx11.out g12 (fun k9 h9 e9 => Own.neRow o_tx11.out r_res11.out (by decide) (h9.trans e9.symm))
     clear r_rh11 o_v11 o_u11 o_tx11
     clear r_res11
     clear f_t11
     clear g12
     (refine wpAnyH_take (i := 5) (v := ?v5x93) rfl (by kernel_rfl) (by kernel_rfl) (by kernel_rfl) (fun _ _ _ h => h) (Or.inl ⟨by rfl, ?hy5x93⟩) (by assumption) ?rest5x93; case hy5x93 => (intro w hSw; (try dsimp only at hSw); go_split_ands; go_simp; (try with_reducible rfl)))
     try simp only [Act.put, pu1, pu2, pu3, pu4, pu5, pu6]
     refine wpAnyH_ready (rs := [6]) (by kernel_rfl) (by simp) ?_
     refine AllReadyH.cons rfl (fun K hK => ?_) AllReadyH.nil
     rw [if_pos (by rfl)]
     refine wp_partG 28 _ _ rfl (w.heap.size + 1) 0 (hc M2) rfl rfl [.int .i64 0, .string ⟨#[]⟩] 28 r_rh12.out (Nat.le_of_ble_eq_true rfl) (sizeH _) (oneH _) [.int .i64 M2.n, .string M2.r] rfl ?_
     intro W13 r_rh13 g13
     refine hK.out _ _ ⟨(cellGro hHeld.1 g13 (by show some (w.heap.size + 1) ≠ some (W3.heap.size); intro h9; injection h9 with h9; omega)), (cellGro hHeld.2.1 g13 (by show some (w.heap.size + 1) ≠ some (W3.heap.size); intro h9; injection h9 with h9; omega)), (cellGro hHeld.2.2.1 g13 (by show some (w.heap.size + 1) ≠ some (W3.heap.size); intro h9; injection h9 with h9; omega)), (cellGro hHeld.2.2.2.1 g13 (by show some (w.heap.size + 1) ≠ some (W3.heap.size); intro h9; injection h9 with h9; omega)), (cellGro hHeld.2.2.2.2.1 g13 (by show some (w.heap.size + 1) ≠ some (W3.heap.size); intro h9; injection h9 with h9; omega)), (cellGro hHeld.2.2.2.2.2.1 g13 (by show some (w.heap.size + 1) ≠ some (W6.heap.size); intro h9; injection h9 with h9; omega)), (cellGro hHeld.2.2.2.2.2.2 g13 (by show some (w.heap.size + 1) ≠ some (W6.heap.size); intro h9; injection h9 with h9; omega))⟩ (fun hHeld => ?_)
     clear hK K
     try simp only [Act.put, pu1, pu2, pu3, pu4, pu5, pu6]
     have f_t13 : Hid (Oht W13 W2.heap.size W3.heap.size (.slice ao_t t.length cap_t) t) := Oht.gro f_t12.out g13 (fun k9 h9 => by injection h9 with h9; omega)
     have r_rh13 : Hid (W13.heap[w.heap.size + 1]? = some (.cells #[.int .i64 M2.n, .string M2.r] 28 (0, 0))) := r_rh13
     have B13 : Hid (Below w.heap.size w W13) := belowGro B12.out g13 B12.out.size (fun k9 h9 => by injection h9 with h9; have := B12.out.size; omega)
     have r_res13 : Hid (W13.heap[w.heap.size]? = some (.cells #[.slice ao_v st.l.length cap_v, .int .i64 st.h.n, .string st.h.r, .slice ao_u L_u cap_u, .int .i64 st.s] 37 (0, 0))) := rowGro r_res12.out g13 (fun h9 => by injection h9 with h9; omega)
     have o_v13 : Hid (Own W13 (W2.heap.size) (W3.heap.size) 9 (.slice ao_v st.l.length cap_v) (ss st.l)) := Own.gro o_v12.out g13 (fun k9 h9 e9 => Own.neRow o_v12.out r_rh12.out (by decide) (h9.trans e9.symm))
     have o_u13 : Hid (Own W13 (W2.heap.size) (W3.heap.size) 5 (.slice ao_u L_u cap_u) (bs st.b)) := Own.gro o_u12.out g13 (fun k9 h9 e9 => Own.neRow o_u12.out r_rh12.out (by decide) (h9.trans e9.symm))
     have o_tx13 : Hid (Own W13 (lo_tx) (hi_tx) 9 (.slice (some ⟨gt, 0, none⟩) x.length cap_tx) (ss (x.set 0 ⟨#[98, 101, 110, 116]⟩))) := Own.gro o_tx12.out g13 (fun k9 h9 e9 => Own.neRow o_tx12.out r_rh12.out (by decide) (h9.trans e9.symm))
     clear r_res12 o_v12 o_u12 o_tx12
     clear r_rh12
     clear f_t12
     clear g13
     (refine wpAnyH_take (i := 7) (v := ?v7x94) rfl (by kernel_rfl) (by kernel_rfl) (by kernel_rfl) (fun _ _ _ h => h) (Or.inl ⟨by rfl, ?hy7x94⟩) (by assumption) ?rest7x94; case hy7x94 => (intro w hSw; (try dsimp only at hSw); go_split_ands; go_simp; (try with_reducible rfl)))
     try simp only [Act.put, pu1, pu2, pu3, pu4, pu5, pu6]
     refine wpAnyH_done (by kernel_rfl) ?_ _
     clear hHeld
     go_wp2
     exact bodyPost_ret (res_ctct rfl _ _ (w.heap.size) (w.heap.size + 1) 37 28 (sc (.slice ao_v st.l.length cap_v) (st).h (.slice ao_u L_u cap_u) (st).s) (hc M2) _ _ rfl r_res13.out Tryz.underlying37 rfl (sizeS _ _ _ _) rfl r_rh13.out Tryz.underlying28 rfl (sizeH M2)) rfl ⟨st, t, M2, x.set 0 ⟨#[98, 101, 110, 116]⟩, .slice ao_v st.l.length cap_v, .slice ao_u L_u cap_u, .slice ao_t t.length cap_t, .slice (some ⟨gt, 0, none⟩) x.length cap_tx, rfl, HA.out, ht9, htz, hM3, by rw [List.length_set]; omega, fun s h9 => by rcases List.mem_or_eq_of_mem_set h9 with h8 | h8; exact Nat.le_trans (hxz s h8) (by omega); rw [h8]; exact Nat.le_refl 4, o_v13.out.sl, o_u13.out.sl, f_t13.out.1.sh, o_tx13.out.sl, B13.out⟩
   ·
    have hy2b : (y2 == 2) = false := by rw [beq_eq_false_iff_ne]; exact hy2a
    clear cu9 bw9
    go_wp2_with fail
    refine wp_region_held_drew (S := fun w' => w'.cell? ⟨W3.heap.size, 0, none⟩ = some (.slice ao_v st.l.length cap_v) ∧ w'.cell? ⟨W3.heap.size, 1, none⟩ = some (.int .i64 st.h.n) ∧ w'.cell? ⟨W3.heap.size, 2, none⟩ = some (.string st.h.r) ∧ w'.cell? ⟨W3.heap.size, 3, none⟩ = some (.slice ao_u L_u cap_u) ∧ w'.cell? ⟨W3.heap.size, 4, none⟩ = some (.int .i64 st.s) ∧ w'.cell? ⟨W6.heap.size, 0, none⟩ = some (.int .i64 M2.n) ∧ w'.cell? ⟨W6.heap.size, 1, none⟩ = some (.string M2.r)) (by kernel_rfl) ⟨c_x9_0, c_x9_1, c_x9_2, c_x9_3, c_x9_4, c_h9_0, c_h9_1⟩ (fun hHeld => ?_)
    obtain ⟨W10, HW10, b10⟩ : ∃ X, Hid (W9.drew = X) ∧ Below W9.heap.size W9 X := ⟨_, rfl, Below.drew (Below.refl _ _)⟩
    have HHW10 := HW10.out
    rw [HHW10] at hHeld ⊢
    clear HHW10
    have B10 : Hid (Below w.heap.size w W10) := B9.out.trans (b10.mono B9.out.size)
    have r_res10 : Hid (W10.heap[w.heap.size]? = some (.cells #[.slice none 0 0, .int .i64 0, .string ⟨#[]⟩, .slice none 0 0, .int .i64 0] 37 (0, 0))) := rowKeep r_res9.out b10
    have r_rh10 : Hid (W10.heap[w.heap.size + 1]? = some (.cells #[.int .i64 0, .string ⟨#[]⟩] 28 (0, 0))) := rowKeep r_rh9.out b10
    have o_v10 : Hid (Own W10 (W2.heap.size) (W3.heap.size) 9 (.slice ao_v st.l.length cap_v) (ss st.l)) := Own.later o_v9.out b10 (by omega)
    have o_u10 : Hid (Own W10 (W2.heap.size) (W3.heap.size) 5 (.slice ao_u L_u cap_u) (bs st.b)) := Own.later o_u9.out b10 (by omega)
    have o_tx10 : Hid (Own W10 (lo_tx) (hi_tx) 9 (.slice ao_tx x.length cap_tx) (ss x)) := Own.later o_tx9.out b10 (by omega)
    clear r_res9 r_rh9 r_x9 c_x9_0 c_x9_1 c_x9_2 c_x9_3 c_x9_4 r_h9 c_h9_0 c_h9_1 o_v9 o_u9 o_tx9
    have f_t10 : Hid (Oht W10 W2.heap.size W3.heap.size (.slice ao_t t.length cap_t) t) := Oht.later f_t9.out b10
    clear f_t9
    (refine wpAnyH_take (i := 0) (v := ?v0x95) rfl (by kernel_rfl) (by kernel_rfl) (by kernel_rfl) (fun _ _ _ h => h) (Or.inl ⟨by rfl, ?hy0x95⟩) (by assumption) ?rest0x95; case hy0x95 => (intro w hSw; (try dsimp only at hSw); go_split_ands; go_simp; (try with_reducible rfl)))
    try simp only [Act.put, pu1, pu2, pu3, pu4, pu5, pu6]
    (refine wpAnyH_take (i := 1) (v := ?v1x96) rfl (by kernel_rfl) (by kernel_rfl) (by kernel_rfl) (fun _ _ _ h => h) (Or.inl ⟨by rfl, ?hy1x96⟩) (by assumption) ?rest1x96; case hy1x96 => (intro w hSw; (try dsimp only at hSw); go_split_ands; go_simp; (try with_reducible rfl)))
    try simp only [Act.put, pu1, pu2, pu3, pu4, pu5, pu6]
    (refine wpAnyH_take (i := 2) (v := ?v2x97) rfl (by kernel_rfl) (by kernel_rfl) (by kernel_rfl) (fun _ _ _ h => h) (Or.inl ⟨by rfl, ?hy2x97⟩) (by assumption) ?rest2x97; case hy2x97 => (intro w hSw; (try dsimp only at hSw); go_split_ands; go_simp; (try with_reducible rfl)))
    try simp only [Act.put, pu1, pu2, pu3, pu4, pu5, pu6]
    (refine wpAnyH_take (i := 3) (v := ?v3x98) rfl (by kernel_rfl) (by kernel_rfl) (by kernel_rfl) (fun _ _ _ h => h) (Or.inl ⟨by rfl, ?hy3x98⟩) (by assumption) ?rest3x98; case hy3x98 => (intro w hSw; (try dsimp only at hSw); go_split_ands; go_simp; (try with_reducible rfl)))
    try simp only [Act.put, pu1, pu2, pu3, pu4, pu5, pu6]
    refine wpAnyH_ready (rs := [4]) (by kernel_rfl) (by simp) ?_
    refine AllReadyH.cons rfl (fun K hK => ?_) AllReadyH.nil
    rw [if_pos (by rfl)]
    refine wp_partG 37 _ _ rfl (w.heap.size) 0 (sc (.slice ao_v st.l.length cap_v) (st).h (.slice ao_u L_u cap_u) (st).s) rfl rfl [.slice none 0 0, .int .i64 0, .string ⟨#[]⟩, .slice none 0 0, .int .i64 0] 37 r_res10.out (Nat.le_of_ble_eq_true rfl) (sizeS _ _ _ _) (oneS _ _ rfl rfl) [.slice ao_v st.l.length cap_v, .int .i64 st.h.n, .string st.h.r, .slice ao_u L_u cap_u, .int .i64 st.s] rfl ?_
    intro W11 r_res11 g11
    refine hK.out _ _ ⟨(cellGro hHeld.1 g11 (by show some (w.heap.size) ≠ some (W3.heap.size); intro h9; injection h9 with h9; omega)), (cellGro hHeld.2.1 g11 (by show some (w.heap.size) ≠ some (W3.heap.size); intro h9; injection h9 with h9; omega)), (cellGro hHeld.2.2.1 g11 (by show some (w.heap.size) ≠ some (W3.heap.size); intro h9; injection h9 with h9; omega)), (cellGro hHeld.2.2.2.1 g11 (by show some (w.heap.size) ≠ some (W3.heap.size); intro h9; injection h9 with h9; omega)), (cellGro hHeld.2.2.2.2.1 g11 (by show some (w.heap.size) ≠ some (W3.heap.size); intro h9; injection h9 with h9; omega)), (cellGro hHeld.2.2.2.2.2.1 g11 (by show some (w.heap.size) ≠ some (W6.heap.size); intro h9; injection h9 with h9; omega)), (cellGro hHeld.2.2.2.2.2.2 g11 (by show some (w.heap.size) ≠ some (W6.heap.size); intro h9; injection h9 with h9; omega))⟩ (fun hHeld => ?_)
    clear hK K
    try simp only [Act.put, pu1, pu2, pu3, pu4, pu5, pu6]
    have f_t11 : Hid (Oht W11 W2.heap.size W3.heap.size (.slice ao_t t.length cap_t) t) := Oht.gro f_t10.out g11 (fun k9 h9 => by injection h9 with h9; omega)
    have r_res11 : Hid (W11.heap[w.heap.size]? = some (.cells #[.slice ao_v st.l.length cap_v, .int .i64 st.h.n, .string st.h.r, .slice ao_u L_u cap_u, .int .i64 st.s] 37 (0, 0))) := r_res11
    have B11 : Hid (Below w.heap.size w W11) := belowGro B10.out g11 B10.out.size (fun k9 h9 => by injection h9 with h9; have := B10.out.size; omega)
    have r_rh11 : Hid (W11.heap[w.heap.size + 1]? = some (.cells #[.int .i64 0, .string ⟨#[]⟩] 28 (0, 0))) := rowGro r_rh10.out g11 (fun h9 => by injection h9 with h9; omega)
    have o_v11 : Hid (Own W11 (W2.heap.size) (W3.heap.size) 9 (.slice ao_v st.l.length cap_v) (ss st.l)) := Own.gro o_v10.out g11 (fun k9 h9 e9 => Own.neRow o_v10.out r_res10.out (by decide) (h9.trans e9.symm))
    have o_u11 : Hid (Own W11 (W2.heap.size) (W3.heap.size) 5 (.slice ao_u L_u cap_u) (bs st.b)) := Own.gro o_u10.out g11 (fun k9 h9 e9 => Own.neRow o_u10.out r_res10.out (by decide) (h9.trans e9.symm))
    have o_tx11 : Hid (Own W11 (lo_tx) (hi_tx) 9 (.slice ao_tx x.length cap_tx) (ss x)) := Own.gro o_tx10.out g11 (fun k9 h9 e9 => Own.neRow o_tx10.out r_res10.out (by decide) (h9.trans e9.symm))
    clear r_rh10 o_v10 o_u10 o_tx10
    clear r_res10
    clear f_t10
    clear g11
    (refine wpAnyH_take (i := 5) (v := ?v5x99) rfl (by kernel_rfl) (by kernel_rfl) (by kernel_rfl) (fun _ _ _ h => h) (Or.inl ⟨by rfl, ?hy5x99⟩) (by assumption) ?rest5x99; case hy5x99 => (intro w hSw; (try dsimp only at hSw); go_split_ands; go_simp; (try with_reducible rfl)))
    try simp only [Act.put, pu1, pu2, pu3, pu4, pu5, pu6]
    refine wpAnyH_ready (rs := [6]) (by kernel_rfl) (by simp) ?_
    refine AllReadyH.cons rfl (fun K hK => ?_) AllReadyH.nil
    rw [if_pos (by rfl)]
    refine wp_partG 28 _ _ rfl (w.heap.size + 1) 0 (hc M2) rfl rfl [.int .i64 0, .string ⟨#[]⟩] 28 r_rh11.out (Nat.le_of_ble_eq_true rfl) (sizeH _) (oneH _) [.int .i64 M2.n, .string M2.r] rfl ?_
    intro W12 r_rh12 g12
    refine hK.out _ _ ⟨(cellGro hHeld.1 g12 (by show some (w.heap.size + 1) ≠ some (W3.heap.size); intro h9; injection h9 with h9; omega)), (cellGro hHeld.2.1 g12 (by show some (w.heap.size + 1) ≠ some (W3.heap.size); intro h9; injection h9 with h9; omega)), (cellGro hHeld.2.2.1 g12 (by show some (w.heap.size + 1) ≠ some (W3.heap.size); intro h9; injection h9 with h9; omega)), (cellGro hHeld.2.2.2.1 g12 (by show some (w.heap.size + 1) ≠ some (W3.heap.size); intro h9; injection h9 with h9; omega)), (cellGro hHeld.2.2.2.2.1 g12 (by show some (w.heap.size + 1) ≠ some (W3.heap.size); intro h9; injection h9 with h9; omega)), (cellGro hHeld.2.2.2.2.2.1 g12 (by show some (w.heap.size + 1) ≠ some (W6.heap.size); intro h9; injection h9 with h9; omega)), (cellGro hHeld.2.2.2.2.2.2 g12 (by show some (w.heap.size + 1) ≠ some (W6.heap.size); intro h9; injection h9 with h9; omega))⟩ (fun hHeld => ?_)
    clear hK K
    try simp only [Act.put, pu1, pu2, pu3, pu4, pu5, pu6]
    have f_t12 : Hid (Oht W12 W2.heap.size W3.heap.size (.slice ao_t t.length cap_t) t) := Oht.gro f_t11.out g12 (fun k9 h9 => by injection h9 with h9; omega)
    have r_rh12 : Hid (W12.heap[w.heap.size + 1]? = some (.cells #[.int .i64 M2.n, .string M2.r] 28 (0, 0))) := r_rh12
    have B12 : Hid (Below w.heap.size w W12) := belowGro B11.out g12 B11.out.size (fun k9 h9 => by injection h9 with h9; have := B11.out.size; omega)
    have r_res12 : Hid (W12.heap[w.heap.size]? = some (.cells #[.slice ao_v st.l.length cap_v, .int .i64 st.h.n, .string st.h.r, .slice ao_u L_u cap_u, .int .i64 st.s] 37 (0, 0))) := rowGro r_res11.out g12 (fun h9 => by injection h9 with h9; omega)
    have o_v12 : Hid (Own W12 (W2.heap.size) (W3.heap.size) 9 (.slice ao_v st.l.length cap_v) (ss st.l)) := Own.gro o_v11.out g12 (fun k9 h9 e9 => Own.neRow o_v11.out r_rh11.out (by decide) (h9.trans e9.symm))
    have o_u12 : Hid (Own W12 (W2.heap.size) (W3.heap.size) 5 (.slice ao_u L_u cap_u) (bs st.b)) := Own.gro o_u11.out g12 (fun k9 h9 e9 => Own.neRow o_u11.out r_rh11.out (by decide) (h9.trans e9.symm))
    have o_tx12 : Hid (Own W12 (lo_tx) (hi_tx) 9 (.slice ao_tx x.length cap_tx) (ss x)) := Own.gro o_tx11.out g12 (fun k9 h9 e9 => Own.neRow o_tx11.out r_rh11.out (by decide) (h9.trans e9.symm))
    clear r_res11 o_v11 o_u11 o_tx11
    clear r_rh11
    clear f_t11
    clear g12
    (refine wpAnyH_take (i := 7) (v := ?v7x100) rfl (by kernel_rfl) (by kernel_rfl) (by kernel_rfl) (fun _ _ _ h => h) (Or.inl ⟨by rfl, ?hy7x100⟩) (by assumption) ?rest7x100; case hy7x100 => (intro w hSw; (try dsimp only at hSw); go_split_ands; go_simp; (try with_reducible rfl)))
    try simp only [Act.put, pu1, pu2, pu3, pu4, pu5, pu6]
    refine wpAnyH_done (by kernel_rfl) ?_ _
    clear hHeld
    go_wp2
    exact bodyPost_ret (res_ctct rfl _ _ (w.heap.size) (w.heap.size + 1) 37 28 (sc (.slice ao_v st.l.length cap_v) (st).h (.slice ao_u L_u cap_u) (st).s) (hc M2) _ _ rfl r_res12.out Tryz.underlying37 rfl (sizeS _ _ _ _) rfl r_rh12.out Tryz.underlying28 rfl (sizeH M2)) rfl ⟨st, t, M2, x, .slice ao_v st.l.length cap_v, .slice ao_u L_u cap_u, .slice ao_t t.length cap_t, .slice ao_tx x.length cap_tx, rfl, HA.out, ht9, htz, hM3, by omega, fun s h9 => Nat.le_trans (hxz s h9) (by omega), o_v12.out.sl, o_u12.out.sl, f_t12.out.1.sh, o_tx12.out.sl, B12.out⟩
end Go.Proofs.YtfpaichdkddglaaGreatDoor.Sr
