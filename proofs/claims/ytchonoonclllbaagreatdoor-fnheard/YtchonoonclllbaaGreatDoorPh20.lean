/- Texts in one: MiF. -/
import Derived.Test.YtchonoonclllbaaGreatDoorPh18
import Derived.Test.YtchonoonclllbaaGreatDoorPh19
import Derived.Deep.CutBlock
set_option maxHeartbeats 16000000
set_option linter.unusedVariables false
set_option linter.unusedSimpArgs false
namespace Go.Proofs.YtchonoonclllbaaGreatDoor.Mi
open Go.RowKit Mem Laws Bytes Sha Tr Draw He Lg Sr Mg
structure Dw (q : Ms) : Prop where
 len : q.x.length ≤ 10
 sz : ∀ s ∈ q.x, s.size ≤ 4
 hd : q.h.r.size ≤ 32
theorem Dw.of {n : Nat} {q : Ms} (h : Dm n q) (hn : n ≤ 10) : Dw q := ⟨Nat.le_trans h.len hn, fun s hs => Nat.le_trans (h.sz s hs) (by omega), h.hd⟩
theorem res_ctc {P : Program} {fn : Func} {p q u : Tmp} {ty tz : TypeId} (h : fn.results = #[.cell p ty, .tmp q, .cell u tz]) (tmps : Array Value) (w : World) (g1 g2 : Nat) (t1 t2 : TypeId) (c1 c2 : Array Value) (d1 d2 : TypeDesc)
  (hp : tmps.getD p undef = .pointer (some ⟨g1, 0, none⟩)) (hg1 : w.heap[g1]? = some (.cells c1 t1 (0, 0))) (hu1 : P.underlying ty = some d1) (hd1 : (match d1 with | .struct _ | .array _ _ => true | _ => false) = true) (hi1 : (P.info? ty).map (·.size) = some c1.size)
  (hq : tmps.getD u undef = .pointer (some ⟨g2, 0, none⟩)) (hg2 : w.heap[g2]? = some (.cells c2 t2 (0, 0))) (hu2 : P.underlying tz = some d2) (hd2 : (match d2 with | .struct _ | .array _ _ => true | _ => false) = true) (hi2 : (P.info? tz).map (·.size) = some c2.size) :
  (results fn tmps).run P w = .ok (.tuple #[.agg c1, tmps.getD q undef, .agg c2]) w := by
 have hp' : tmps[p]?.getD undef = .pointer (some ⟨g1, 0, none⟩) := by simpa using hp
 have hq' : tmps[u]?.getD undef = .pointer (some ⟨g2, 0, none⟩) := by simpa using hq
 simp [results, h, hp', hq', asAddr, run_loadVar_row w g1 t1 ty c1 (0, 0) d1 hg1 hu1 hd1 hi1, run_loadVar_row w g2 t2 tz c2 (0, 0) d2 hg2 hu2 hd2 hi2]
set_option maxRecDepth 1000000 in
theorem drawHear_any (w : World) (vb : Value) (xs : List Int) (hs : Sl w vb (bs xs)) (hby : Byt xs) (hx : xs.length ≤ 140737488355328) :
  Calls Tryz.prog 9 #[vb] w fun e w' => ∃ (m : Mr) (t : List Hd) (q : Ms) (v u vt vx : Value), e = .returned (.tuple #[.agg #[.int .i64 m.id, v, .int .i64 m.st.h.n, .string m.st.h.r, u, .int .i64 m.st.s, .int .i64 m.b.n, .string m.b.r], vt, .agg #[.int .i64 q.k, .int .i64 q.f, .int .i64 q.t, .int .i64 q.h.n, .string q.h.r, .int .i64 q.n, vx]]) ∧ A14 m ∧ 1 ≤ t.length ∧ t.length ≤ 10 ∧ (∀ x ∈ t, x.r.size ≤ 32) ∧ Dw q ∧ Sl w' v (ss m.st.l) ∧ Sl w' u (bs m.st.b) ∧ Sh w' vt t ∧ Sl w' vx (ss q.x) ∧ Below w.heap.size w w' := by
 have HS : Hid (Sl w vb (bs xs)) := hs
 obtain ⟨aob, capb, rfl, hcb⟩ := hs.form
 clear hs
 have B0 : Hid (Below w.heap.size w w) := Below.refl _ _
 obtain ⟨i9, hi9, hz9a, hz9b, hz9c⟩ := info_parts info9t
 obtain ⟨W1, HW1, b1, y1, hS1, r_res1, r_rq1⟩ := Ke.l2 w #[.int .i64 0, .slice none 0 0, .int .i64 0, .string ⟨#[]⟩, .slice none 0 0, .int .i64 0, .int .i64 0, .string ⟨#[]⟩] 32 #[.int .i64 0, .int .i64 0, .int .i64 0, .int .i64 0, .string ⟨#[]⟩, .int .i64 0, .slice none 0 0] 35
 have z1 := b1.size
 have B1 := Ke.b B0 b1
 go_enter Tryz.func9, Tryz.ntmps9
 go_wp2_with fail
 rw [HW1.out]
 refine (new_any W1 _ xs (HS.out.later B1.out) hby hx).mono ?_
 rintro e W2 ⟨rfl, d2⟩
 have hcg : W1.heap.size < W2.heap.size := d2.cur.lt
 have HSW : Hid (Sl W1 (.slice aob (bs xs).length capb) (bs xs)) := (HS.out.later B1.out)
 have cu1 : Hid True := trivial
 have bw1 : Hid True := trivial
 have z2 := d2.apart.size
 have B2 : Hid (Below w.heap.size w W2) := B1.out.trans (d2.below.mono B1.out.size)
 have cu2 := Kd.e d2
 have bw2 := Kd.f d2
 have r_res2 := Kd.r r_res1 d2
 have r_rq2 := Kd.r r_rq1 d2
 clear r_res1 r_rq1
 clear cu1 bw1 d2
 go_wp2_with fail
 refine (any14 W1 W2 (W1.heap.size) _ xs HSW.out hby hx bw2.out (Nat.le_refl _) cu2.out).mono ?_
 rintro e W3 ⟨all, t, m, v_v, v_u, v_t, v_a, rfl, hA, hA1, hA9, hAz, ht1, ht9, htz, o_v3, o_u3, o_a3, o_t3, d3⟩
 have z3 := d3.apart.size
 have B3 : Hid (Below w.heap.size w W3) := B1.out.trans (d3.below.mono B1.out.size)
 have cu3 := Kd.e d3
 have bw3 := Kd.f d3
 have r_res3 := Kd.r r_res2 d3
 have r_rq3 := Kd.r r_rq2 d3
 clear r_res2 r_rq2
 clear cu2 bw2 d3
 obtain ⟨ao_v, L_v, cap_v, rfl, _, _⟩ := Mem.Own.form o_v3
 have o_v3 : Hid (Own W3 W2.heap.size W3.heap.size 9 (.slice ao_v L_v cap_v) (ss m.st.l)) := o_v3
 obtain ⟨ao_u, L_u, cap_u, rfl, _, _⟩ := Mem.Own.form o_u3
 have o_u3 : Hid (Own W3 W2.heap.size W3.heap.size 5 (.slice ao_u L_u cap_u) (bs m.st.b)) := o_u3
 obtain ⟨ao_a, L_a, cap_a, rfl, _, _⟩ := Mem.Own.form o_a3
 have o_a3 : Hid (Own W3 W2.heap.size W3.heap.size 9 (.slice ao_a L_a cap_a) (ss all)) := o_a3
 obtain ⟨ao_t, cap_t, rfl, _⟩ := (Oh.sh o_t3).form
 have f_t3 : Hid (Oht W3 W2.heap.size W3.heap.size (.slice ao_t t.length cap_t) t) := ⟨o_t3, Nat.le_refl _⟩
 clear o_t3
 have HA : Hid (A14 m) := hA
 have HTZ : Hid (∀ x ∈ t, x.r.size ≤ 32) := htz
 have HAZ : Hid (∀ s ∈ all, s.size ≤ 3) := hAz
 clear hA htz hAz
 obtain rfl : L_v = m.st.l.length := by obtain ⟨a9, L9, c9, he, h1, h2⟩ := Mem.Own.form o_v3.out; injection he with _ he2 _; rw [ss_len] at h1 h2; omega
 obtain rfl : L_a = all.length := by obtain ⟨a9, L9, c9, he, h1, h2⟩ := Mem.Own.form o_a3.out; injection he with _ he2 _; rw [ss_len] at h1 h2; omega
 obtain ⟨ga, rfl, hga1, hga2, curA, hcurA, _⟩ := Own.blockG o_a3.out (by omega)
 clear hcurA
 have hcap : all.length ≤ cap_a := by obtain ⟨a9, c9, he, h1, _⟩ := o_a3.out.sl; injection he with _ he2 he3; rw [ss_len] at h1; omega
 have hml : m.st.l.length ≤ 10 := HA.out.st.len
 obtain ⟨W4, HW4, b4, y4, hS4, r_x4⟩ := Ke.l1 W3 #[.int .i64 m.id, .slice ao_v m.st.l.length cap_v, .int .i64 m.st.h.n, .string m.st.h.r, .slice ao_u L_u cap_u, .int .i64 m.st.s, .int .i64 m.b.n, .string m.b.r] 32
 have z4 := b4.size
 have B4 := Ke.b B3 b4
 have r_res4 := Ke.r r_res3 b4
 have r_rq4 := Ke.r r_rq3 b4
 have o_v4 := Ke.o o_v3 b4
 have o_u4 := Ke.o o_u3 b4
 have o_a4 := Ke.o o_a3 b4
 clear r_res3 r_rq3 o_v3 o_u3 o_a3
 have f_t4 := Ke.h (Oht.later f_t3.out b4)
 clear f_t3
 have cu4 := Kd.c cu3 b4
 have bw4 := Ke.b bw3 b4
 clear cu3 bw3
 go_upto_if 27 with fail
 rw [HW4.out]
 go_cut [9] (fun s9 wx => ∃ (N : Nat), s9 = .int .i64 (N : Int) ∧ (N ≤ all.length) ∧ Below w.heap.size w wx ∧ W4.heap.size ≤ wx.heap.size ∧ Cur wx (W1.heap.size) (.slice aob (bs xs).length capb) xs.length ∧ Below W1.heap.size W1 wx ∧ wx.heap[w.heap.size]? = some (.cells #[.int .i64 0, .slice none 0 0, .int .i64 0, .string ⟨#[]⟩, .slice none 0 0, .int .i64 0, .int .i64 0, .string ⟨#[]⟩] 32 (0, 0)) ∧ wx.heap[w.heap.size + 1]? = some (.cells #[.int .i64 0, .int .i64 0, .int .i64 0, .int .i64 0, .string ⟨#[]⟩, .int .i64 0, .slice none 0 0] 35 (0, 0)) ∧ wx.heap[W3.heap.size]? = some (.cells #[.int .i64 m.id, .slice ao_v m.st.l.length cap_v, .int .i64 m.st.h.n, .string m.st.h.r, .slice ao_u L_u cap_u, .int .i64 m.st.s, .int .i64 m.b.n, .string m.b.r] 32 (0, 0)) ∧ Own wx (W2.heap.size) (W3.heap.size) 9 (.slice ao_v m.st.l.length cap_v) (ss m.st.l) ∧ Own wx (W2.heap.size) (W3.heap.size) 5 (.slice ao_u L_u cap_u) (bs m.st.b) ∧ Own wx (W2.heap.size) (W3.heap.size) 9 (.slice (some ⟨ga, 0, none⟩) all.length cap_a) (ss all) ∧ Oht wx W2.heap.size W3.heap.size (.slice ao_t t.length cap_t) t)
 case first =>
  by_cases hlt : all.length < m.st.l.length
  ·have hlt2 : (all.length : Int) < (m.st.l.length : Int) := by omega
   go_wp2_with fail
   go_meet
   exact ⟨all.length, rfl, (by omega), B4.out, by omega, cu4.out, bw4.out, r_res4.out, r_rq4.out, r_x4.out, o_v4.out, o_u4.out, o_a4.out, f_t4.out⟩
  ·have hlt2 : ¬ (all.length : Int) < (m.st.l.length : Int) := by omega
   go_wp2_with fail
   go_meet
   exact ⟨m.st.l.length, rfl, (by omega), B4.out, by omega, cu4.out, bw4.out, r_res4.out, r_rq4.out, r_x4.out, o_v4.out, o_u4.out, o_a4.out, f_t4.out⟩
 case rest =>
 obtain ⟨N, rfl, hN, B5, z5, cu5, bw5, r_res5, r_rq5, r_x5, o_v5, o_u5, o_a5, f_t5⟩ := hcut
 revert B5 z5 cu5 bw5 r_res5 r_rq5 r_x5 o_v5 o_u5 o_a5 f_t5
 generalize wc = W5
 intro B5 z5 cu5 bw5 r_res5 r_rq5 r_x5 o_v5 o_u5 o_a5 f_t5
 have B5 := Ke.h B5
 have cu5 := Ke.h cu5
 have bw5 := Ke.h bw5
 have r_res5 := Ke.h r_res5
 have r_rq5 := Ke.h r_rq5
 have r_x5 := Ke.h r_x5
 have o_v5 := Ke.h o_v5
 have o_u5 := Ke.h o_u5
 have o_a5 := Ke.h o_a5
 have f_t5 := Ke.h f_t5
 clear r_res4 r_rq4 r_x4 o_v4 o_u4 o_a4 f_t4 cu4 bw4
 have c_x5 := Ke.c r_x5
 obtain ⟨M, hM⟩ : ∃ M, headOf all = M := ⟨_, rfl⟩
 have hMz := headOf_size all
 rw [hM] at hMz
 have q0 : ∀ W v1, Sl W v1 (ss all) → _ := fun W v1 h1 => headOf_spec W v1 all h1 (by omega) (fun s h9 => Nat.le_trans (HAZ.out s h9) (by omega))
 simp only [hM] at q0
 clear hM
 go_upto_region 6 with fail
 go_cut [10] (fun s10 wx => ∃ (g_w : Nat) (ki : Int), s10 = (.pointer (some ⟨g_w, 0, none⟩)) ∧ (1 ≤ ki) ∧ (ki ≤ 3) ∧ Below w.heap.size w wx ∧ W5.heap.size ≤ wx.heap.size ∧ W5.heap.size ≤ g_w ∧ g_w < wx.heap.size ∧ Cur wx (W1.heap.size) (.slice aob (bs xs).length capb) xs.length ∧ Below W1.heap.size W1 wx ∧ wx.heap[g_w]? = some (.cells #[.int .i64 ki, .int .i64 5, .int .i64 m.id, .int .i64 M.n, .string M.r, .int .i64 0, .slice none 0 0] 35 (0, 0)) ∧ wx.heap[w.heap.size]? = some (.cells #[.int .i64 0, .slice none 0 0, .int .i64 0, .string ⟨#[]⟩, .slice none 0 0, .int .i64 0, .int .i64 0, .string ⟨#[]⟩] 32 (0, 0)) ∧ wx.heap[w.heap.size + 1]? = some (.cells #[.int .i64 0, .int .i64 0, .int .i64 0, .int .i64 0, .string ⟨#[]⟩, .int .i64 0, .slice none 0 0] 35 (0, 0)) ∧ wx.heap[W3.heap.size]? = some (.cells #[.int .i64 m.id, .slice ao_v m.st.l.length cap_v, .int .i64 m.st.h.n, .string m.st.h.r, .slice ao_u L_u cap_u, .int .i64 m.st.s, .int .i64 m.b.n, .string m.b.r] 32 (0, 0)) ∧ Own wx (W2.heap.size) (W3.heap.size) 9 (.slice ao_v m.st.l.length cap_v) (ss m.st.l) ∧ Own wx (W2.heap.size) (W3.heap.size) 5 (.slice ao_u L_u cap_u) (bs m.st.b) ∧ Own wx (W2.heap.size) (W3.heap.size) 9 (.slice (some ⟨ga, 0, none⟩) all.length cap_a) (ss all) ∧ Oht wx W2.heap.size W3.heap.size (.slice ao_t t.length cap_t) t)
 case first =>
  refine wp_region_held_drew (S := fun w' => (∀ j, w'.cell? ⟨W3.heap.size, j, none⟩ = #[.int .i64 m.id, .slice ao_v m.st.l.length cap_v, .int .i64 m.st.h.n, .string m.st.h.r, .slice ao_u L_u cap_u, .int .i64 m.st.s, .int .i64 m.b.n, .string m.b.r][j]?)) (by kernel_rfl) c_x5 (fun hHeld => ?_)
  obtain ⟨W6, HW6, b6⟩ := Ke.v W5
  have HHW6 := HW6.out
  rw [HHW6] at hHeld ⊢
  clear HHW6
  have z6 := b6.size
  have B6 := Ke.b B5 b6
  have r_res6 := Ke.r r_res5 b6
  have r_rq6 := Ke.r r_rq5 b6
  have r_x6 := Ke.r r_x5 b6
  have o_v6 := Ke.o o_v5 b6
  have o_u6 := Ke.o o_u5 b6
  have o_a6 := Ke.o o_a5 b6
  have c_x6 := Ke.c r_x6
  clear r_res5 r_rq5 r_x5 c_x5 o_v5 o_u5 o_a5
  have f_t6 := Ke.h (Oht.later f_t5.out b6)
  clear f_t5
  have cu6 := Kd.c cu5 b6
  have bw6 := Ke.b bw5 b6
  clear cu5 bw5
  refine Ke.q 0 ?_; try simp only [Act.put, pq]
  refine Ke.q 3 ?_; try simp only [Act.put, pq]
  refine Ke.q 4 ?_; try simp only [Act.put, pq]
  refine Ke.q 5 ?_; try simp only [Act.put, pq]
  refine wpAnyH_ready (rs := [1, 8]) (by kernel_rfl) (by simp) ?_
  refine AllReadyH.cons rfl (fun K hK => ?_) (AllReadyH.cons rfl (fun K hK => ?_) AllReadyH.nil)
  ·go_simp
   refine (below_any W1 W6 (W1.heap.size) _ xs 3 (by omega) (by omega) HSW.out hby hx bw6.out (Nat.le_refl _) cu6.out).mono ?_
   rintro e W7 ⟨y, rfl, hy0, hy3, d7⟩
   refine hK.out _ _ (Kd.k hHeld d7 (by omega)) (fun hHeld => ?_)
   clear hK K
   try simp only [Act.put, pq]
   have z7 := d7.apart.size
   have B7 : Hid (Below w.heap.size w W7) := B1.out.trans (d7.below.mono B1.out.size)
   have cu7 := Kd.e d7
   have bw7 := Kd.f d7
   have r_res7 := Kd.r r_res6 d7
   have r_rq7 := Kd.r r_rq6 d7
   have r_x7 := Kd.r r_x6 d7
   have o_v7 := Kd.o o_v6 d7
   have o_u7 := Kd.o o_u6 d7
   have o_a7 := Kd.o o_a6 d7
   have f_t7 := Kd.t f_t6 d7
   have c_x7 := Ke.c r_x7
   clear r_res6 r_rq6 r_x6 c_x6 o_v6 o_u6 o_a6
   clear cu6 bw6 d7 f_t6
   have wy : IntKind.i64.wrap (1 + y) = 1 + y := by rw [IntKind.wrap_i64]; omega
   refine Ke.q 2 ?_; try simp only [Act.put, pq]
   refine wpAnyH_ready (rs := [6, 8]) (by kernel_rfl) (by simp) ?_
   refine AllReadyH.cons rfl (fun K hK => ?_) (AllReadyH.cons rfl (fun K hK => ?_) AllReadyH.nil)
   ·go_simp
    refine (q0 W7 _ o_a7.out.sl).mono ?_
    rintro e W8 ⟨rfl, b8⟩
    refine hK.out _ _ (Ke.k (W := W7) hHeld b8) (fun hHeld => ?_)
    clear hK K
    try simp only [Act.put, pq]
    have z8 := b8.size
    have B8 := Ke.b B7 b8
    have r_res8 := Ke.r r_res7 b8
    have r_rq8 := Ke.r r_rq7 b8
    have r_x8 := Ke.r r_x7 b8
    have o_v8 := Ke.o o_v7 b8
    have o_u8 := Ke.o o_u7 b8
    have o_a8 := Ke.o o_a7 b8
    have c_x8 := Ke.c r_x8
    clear r_res7 r_rq7 r_x7 c_x7 o_v7 o_u7 o_a7
    have f_t8 := Ke.h (Oht.later f_t7.out b8)
    clear f_t7
    have cu8 := Kd.c cu7 b8
    have bw8 := Ke.b bw7 b8
    clear cu7 bw7
    refine Ke.q 7 ?_; try simp only [Act.put, pq]
    refine Ke.z 8 rfl (fun K hK => ?_)
    go_simp
    refine hK.out _ _ (Ke.k (W := W8) hHeld ((Below.refl _ _).alloc (Nat.le_refl _) _)) (fun hHeld => ?_)
    clear hK K
    try simp only [Act.put, pq]
    obtain ⟨W9, HW9, b9, y9, hS9, r_w9⟩ := Ke.l1 W8 #[.int .i64 0, .int .i64 0, .int .i64 0, .int .i64 0, .string ⟨#[]⟩, .int .i64 0, .slice none 0 0] 35
    have HHW9 := HW9.out
    rw [HHW9] at hHeld ⊢
    clear HHW9
    have z9 := b9.size
    have B9 := Ke.b B8 b9
    have r_res9 := Ke.r r_res8 b9
    have r_rq9 := Ke.r r_rq8 b9
    have r_x9 := Ke.r r_x8 b9
    have o_v9 := Ke.o o_v8 b9
    have o_u9 := Ke.o o_u8 b9
    have o_a9 := Ke.o o_a8 b9
    have c_x9 := Ke.c r_x9
    have c_w9 := Ke.c r_w9
    clear r_res8 r_rq8 r_x8 c_x8 o_v8 o_u8 o_a8
    have f_t9 := Ke.h (Oht.later f_t8.out b9)
    clear f_t8
    have cu9 := Kd.c cu8 b9
    have bw9 := Ke.b bw8 b9
    clear cu8 bw8
    refine Ke.z 9 rfl (fun K hK => ?_)
    rw [if_pos (by rfl)]
    refine wp_partG 35 _ _ rfl (W8.heap.size) 0 (mc ⟨1 + y, 5, m.id, M, 0, []⟩ (.slice none 0 0)) rfl rfl [.int .i64 0, .int .i64 0, .int .i64 0, .int .i64 0, .string ⟨#[]⟩, .int .i64 0, .slice none 0 0] 35 r_w9.out (Nat.le_of_ble_eq_true rfl) (sizeM _ _) (oneM _ rfl) [.int .i64 (1 + y), .int .i64 5, .int .i64 m.id, .int .i64 M.n, .string M.r, .int .i64 0, .slice none 0 0] rfl ?_
    intro W10 r_w10 g10
    refine hK.out _ _ (Ke.g hHeld g10 (by show some (W8.heap.size) ≠ some (W3.heap.size); intro h9; injection h9 with h9; omega)) (fun hHeld => ?_)
    clear hK K
    try simp only [Act.put, pq]
    have f_t10 := Ke.h (Oht.gro f_t9.out g10 (fun k9 h9 => by injection h9 with h9; omega))
    have cu10 := Ke.h (cu9.out.gro g10 (fun h9 => by injection h9 with h9; omega))
    have bw10 := Ke.i bw9 g10
    clear cu9 bw9
    have r_w10 : Hid (W10.heap[W8.heap.size]? = some (.cells #[.int .i64 (1 + y), .int .i64 5, .int .i64 m.id, .int .i64 M.n, .string M.r, .int .i64 0, .slice none 0 0] 35 (0, 0))) := r_w10
    have z10 := g10.size
    have B10 := Ke.i B9 g10
    have r_res10 := Ke.s r_res9 g10
    have r_rq10 := Ke.s r_rq9 g10
    have r_x10 := Ke.s r_x9 g10
    have o_v10 := Ke.t o_v9 r_w9 g10
    have o_u10 := Ke.t o_u9 r_w9 g10
    have o_a10 := Ke.t o_a9 r_w9 g10
    have c_x10 := Ke.c r_x10
    have c_w10 := Ke.c r_w10
    clear r_res9 r_rq9 r_x9 c_x9 o_v9 o_u9 o_a9
    clear r_w9 c_w9
    clear f_t9
    clear g10
    refine wpAnyH_done (by kernel_rfl) ?_ _
    clear hHeld
    go_wp2_with fail
    go_meet
    exact ⟨W8.heap.size, 1 + y, rfl, (by omega), (by omega), B10.out, by omega, by omega, (Array.getElem?_eq_some_iff.1 r_w10.out).1, cu10.out, bw10.out, r_w10.out, r_res10.out, r_rq10.out, r_x10.out, o_v10.out, o_u10.out, o_a10.out, f_t10.out⟩
   ·go_simp
    refine hK.out _ _ (Ke.k (W := W7) hHeld ((Below.refl _ _).alloc (Nat.le_refl _) _)) (fun hHeld => ?_)
    clear hK K
    try simp only [Act.put, pq]
    obtain ⟨W8, HW8, b8, y8, hS8, r_w8⟩ := Ke.l1 W7 #[.int .i64 0, .int .i64 0, .int .i64 0, .int .i64 0, .string ⟨#[]⟩, .int .i64 0, .slice none 0 0] 35
    have HHW8 := HW8.out
    rw [HHW8] at hHeld ⊢
    clear HHW8
    have z8 := b8.size
    have B8 := Ke.b B7 b8
    have r_res8 := Ke.r r_res7 b8
    have r_rq8 := Ke.r r_rq7 b8
    have r_x8 := Ke.r r_x7 b8
    have o_v8 := Ke.o o_v7 b8
    have o_u8 := Ke.o o_u7 b8
    have o_a8 := Ke.o o_a7 b8
    have c_x8 := Ke.c r_x8
    have c_w8 := Ke.c r_w8
    clear r_res7 r_rq7 r_x7 c_x7 o_v7 o_u7 o_a7
    have f_t8 := Ke.h (Oht.later f_t7.out b8)
    clear f_t7
    have cu8 := Kd.c cu7 b8
    have bw8 := Ke.b bw7 b8
    clear cu7 bw7
    refine Ke.z 6 rfl (fun K hK => ?_)
    go_simp
    refine (q0 W8 _ o_a8.out.sl).mono ?_
    rintro e W9 ⟨rfl, b9⟩
    refine hK.out _ _ (Ke.k (W := W8) hHeld b9) (fun hHeld => ?_)
    clear hK K
    try simp only [Act.put, pq]
    have z9 := b9.size
    have B9 := Ke.b B8 b9
    have r_res9 := Ke.r r_res8 b9
    have r_rq9 := Ke.r r_rq8 b9
    have r_x9 := Ke.r r_x8 b9
    have r_w9 := Ke.r r_w8 b9
    have o_v9 := Ke.o o_v8 b9
    have o_u9 := Ke.o o_u8 b9
    have o_a9 := Ke.o o_a8 b9
    have c_x9 := Ke.c r_x9
    have c_w9 := Ke.c r_w9
    clear r_res8 r_rq8 r_x8 c_x8 r_w8 c_w8 o_v8 o_u8 o_a8
    have f_t9 := Ke.h (Oht.later f_t8.out b9)
    clear f_t8
    have cu9 := Kd.c cu8 b9
    have bw9 := Ke.b bw8 b9
    clear cu8 bw8
    refine Ke.q 7 ?_; try simp only [Act.put, pq]
    refine Ke.z 9 rfl (fun K hK => ?_)
    rw [if_pos (by rfl)]
    refine wp_partG 35 _ _ rfl (W7.heap.size) 0 (mc ⟨1 + y, 5, m.id, M, 0, []⟩ (.slice none 0 0)) rfl rfl [.int .i64 0, .int .i64 0, .int .i64 0, .int .i64 0, .string ⟨#[]⟩, .int .i64 0, .slice none 0 0] 35 r_w9.out (Nat.le_of_ble_eq_true rfl) (sizeM _ _) (oneM _ rfl) [.int .i64 (1 + y), .int .i64 5, .int .i64 m.id, .int .i64 M.n, .string M.r, .int .i64 0, .slice none 0 0] rfl ?_
    intro W10 r_w10 g10
    refine hK.out _ _ (Ke.g hHeld g10 (by show some (W7.heap.size) ≠ some (W3.heap.size); intro h9; injection h9 with h9; omega)) (fun hHeld => ?_)
    clear hK K
    try simp only [Act.put, pq]
    have f_t10 := Ke.h (Oht.gro f_t9.out g10 (fun k9 h9 => by injection h9 with h9; omega))
    have cu10 := Ke.h (cu9.out.gro g10 (fun h9 => by injection h9 with h9; omega))
    have bw10 := Ke.i bw9 g10
    clear cu9 bw9
    have r_w10 : Hid (W10.heap[W7.heap.size]? = some (.cells #[.int .i64 (1 + y), .int .i64 5, .int .i64 m.id, .int .i64 M.n, .string M.r, .int .i64 0, .slice none 0 0] 35 (0, 0))) := r_w10
    have z10 := g10.size
    have B10 := Ke.i B9 g10
    have r_res10 := Ke.s r_res9 g10
    have r_rq10 := Ke.s r_rq9 g10
    have r_x10 := Ke.s r_x9 g10
    have o_v10 := Ke.t o_v9 r_w9 g10
    have o_u10 := Ke.t o_u9 r_w9 g10
    have o_a10 := Ke.t o_a9 r_w9 g10
    have c_x10 := Ke.c r_x10
    have c_w10 := Ke.c r_w10
    clear r_res9 r_rq9 r_x9 c_x9 o_v9 o_u9 o_a9
    clear r_w9 c_w9
    clear f_t9
    clear g10
    refine wpAnyH_done (by kernel_rfl) ?_ _
    clear hHeld
    go_wp2_with fail
    go_meet
    exact ⟨W7.heap.size, 1 + y, rfl, (by omega), (by omega), B10.out, by omega, by omega, (Array.getElem?_eq_some_iff.1 r_w10.out).1, cu10.out, bw10.out, r_w10.out, r_res10.out, r_rq10.out, r_x10.out, o_v10.out, o_u10.out, o_a10.out, f_t10.out⟩
  ·go_simp
   refine hK.out _ _ (Ke.k (W := W6) hHeld ((Below.refl _ _).alloc (Nat.le_refl _) _)) (fun hHeld => ?_)
   clear hK K
   try simp only [Act.put, pq]
   obtain ⟨W7, HW7, b7, y7, hS7, r_w7⟩ := Ke.l1 W6 #[.int .i64 0, .int .i64 0, .int .i64 0, .int .i64 0, .string ⟨#[]⟩, .int .i64 0, .slice none 0 0] 35
   have HHW7 := HW7.out
   rw [HHW7] at hHeld ⊢
   clear HHW7
   have z7 := b7.size
   have B7 := Ke.b B6 b7
   have r_res7 := Ke.r r_res6 b7
   have r_rq7 := Ke.r r_rq6 b7
   have r_x7 := Ke.r r_x6 b7
   have o_v7 := Ke.o o_v6 b7
   have o_u7 := Ke.o o_u6 b7
   have o_a7 := Ke.o o_a6 b7
   have c_x7 := Ke.c r_x7
   have c_w7 := Ke.c r_w7
   clear r_res6 r_rq6 r_x6 c_x6 o_v6 o_u6 o_a6
   have f_t7 := Ke.h (Oht.later f_t6.out b7)
   clear f_t6
   have cu7 := Kd.c cu6 b7
   have bw7 := Ke.b bw6 b7
   clear cu6 bw6
   refine Ke.z 1 rfl (fun K hK => ?_)
   go_simp
   refine (below_any W1 W7 (W1.heap.size) _ xs 3 (by omega) (by omega) HSW.out hby hx bw7.out (Nat.le_refl _) cu7.out).mono ?_
   rintro e W8 ⟨y, rfl, hy0, hy3, d8⟩
   refine hK.out _ _ (Kd.k hHeld d8 (by omega)) (fun hHeld => ?_)
   clear hK K
   try simp only [Act.put, pq]
   have z8 := d8.apart.size
   have B8 : Hid (Below w.heap.size w W8) := B1.out.trans (d8.below.mono B1.out.size)
   have cu8 := Kd.e d8
   have bw8 := Kd.f d8
   have r_res8 := Kd.r r_res7 d8
   have r_rq8 := Kd.r r_rq7 d8
   have r_x8 := Kd.r r_x7 d8
   have r_w8 := Kd.r r_w7 d8
   have o_v8 := Kd.o o_v7 d8
   have o_u8 := Kd.o o_u7 d8
   have o_a8 := Kd.o o_a7 d8
   have f_t8 := Kd.t f_t7 d8
   have c_x8 := Ke.c r_x8
   have c_w8 := Ke.c r_w8
   clear r_res7 r_rq7 r_x7 c_x7 r_w7 c_w7 o_v7 o_u7 o_a7
   clear cu7 bw7 d8 f_t7
   have wy : IntKind.i64.wrap (1 + y) = 1 + y := by rw [IntKind.wrap_i64]; omega
   refine Ke.q 2 ?_; try simp only [Act.put, pq]
   refine Ke.z 6 rfl (fun K hK => ?_)
   go_simp
   refine (q0 W8 _ o_a8.out.sl).mono ?_
   rintro e W9 ⟨rfl, b9⟩
   refine hK.out _ _ (Ke.k (W := W8) hHeld b9) (fun hHeld => ?_)
   clear hK K
   try simp only [Act.put, pq]
   have z9 := b9.size
   have B9 := Ke.b B8 b9
   have r_res9 := Ke.r r_res8 b9
   have r_rq9 := Ke.r r_rq8 b9
   have r_x9 := Ke.r r_x8 b9
   have r_w9 := Ke.r r_w8 b9
   have o_v9 := Ke.o o_v8 b9
   have o_u9 := Ke.o o_u8 b9
   have o_a9 := Ke.o o_a8 b9
   have c_x9 := Ke.c r_x9
   have c_w9 := Ke.c r_w9
   clear r_res8 r_rq8 r_x8 c_x8 r_w8 c_w8 o_v8 o_u8 o_a8
   have f_t9 := Ke.h (Oht.later f_t8.out b9)
   clear f_t8
   have cu9 := Kd.c cu8 b9
   have bw9 := Ke.b bw8 b9
   clear cu8 bw8
   refine Ke.q 7 ?_; try simp only [Act.put, pq]
   refine Ke.z 9 rfl (fun K hK => ?_)
   rw [if_pos (by rfl)]
   refine wp_partG 35 _ _ rfl (W6.heap.size) 0 (mc ⟨1 + y, 5, m.id, M, 0, []⟩ (.slice none 0 0)) rfl rfl [.int .i64 0, .int .i64 0, .int .i64 0, .int .i64 0, .string ⟨#[]⟩, .int .i64 0, .slice none 0 0] 35 r_w9.out (Nat.le_of_ble_eq_true rfl) (sizeM _ _) (oneM _ rfl) [.int .i64 (1 + y), .int .i64 5, .int .i64 m.id, .int .i64 M.n, .string M.r, .int .i64 0, .slice none 0 0] rfl ?_
   intro W10 r_w10 g10
   refine hK.out _ _ (Ke.g hHeld g10 (by show some (W6.heap.size) ≠ some (W3.heap.size); intro h9; injection h9 with h9; omega)) (fun hHeld => ?_)
   clear hK K
   try simp only [Act.put, pq]
   have f_t10 := Ke.h (Oht.gro f_t9.out g10 (fun k9 h9 => by injection h9 with h9; omega))
   have cu10 := Ke.h (cu9.out.gro g10 (fun h9 => by injection h9 with h9; omega))
   have bw10 := Ke.i bw9 g10
   clear cu9 bw9
   have r_w10 : Hid (W10.heap[W6.heap.size]? = some (.cells #[.int .i64 (1 + y), .int .i64 5, .int .i64 m.id, .int .i64 M.n, .string M.r, .int .i64 0, .slice none 0 0] 35 (0, 0))) := r_w10
   have z10 := g10.size
   have B10 := Ke.i B9 g10
   have r_res10 := Ke.s r_res9 g10
   have r_rq10 := Ke.s r_rq9 g10
   have r_x10 := Ke.s r_x9 g10
   have o_v10 := Ke.t o_v9 r_w9 g10
   have o_u10 := Ke.t o_u9 r_w9 g10
   have o_a10 := Ke.t o_a9 r_w9 g10
   have c_x10 := Ke.c r_x10
   have c_w10 := Ke.c r_w10
   clear r_res9 r_rq9 r_x9 c_x9 o_v9 o_u9 o_a9
   clear r_w9 c_w9
   clear f_t9
   clear g10
   refine wpAnyH_done (by kernel_rfl) ?_ _
   clear hHeld
   go_wp2_with fail
   go_meet
   exact ⟨W6.heap.size, 1 + y, rfl, (by omega), (by omega), B10.out, by omega, by omega, (Array.getElem?_eq_some_iff.1 r_w10.out).1, cu10.out, bw10.out, r_w10.out, r_res10.out, r_rq10.out, r_x10.out, o_v10.out, o_u10.out, o_a10.out, f_t10.out⟩
 case rest =>
 obtain ⟨g_w, ki, rfl, hK1, hK3, B6, z6, hg1_w, hg2_w, cu6, bw6, r_w6, r_res6, r_rq6, r_x6, o_v6, o_u6, o_a6, f_t6⟩ := hcut
 revert B6 z6 hg1_w hg2_w cu6 bw6 r_w6 r_res6 r_rq6 r_x6 o_v6 o_u6 o_a6 f_t6
 generalize wc = W6
 intro B6 z6 hg1_w hg2_w cu6 bw6 r_w6 r_res6 r_rq6 r_x6 o_v6 o_u6 o_a6 f_t6
 have B6 := Ke.h B6
 have cu6 := Ke.h cu6
 have bw6 := Ke.h bw6
 have r_w6 := Ke.h r_w6
 have r_res6 := Ke.h r_res6
 have r_rq6 := Ke.h r_rq6
 have r_x6 := Ke.h r_x6
 have o_v6 := Ke.h o_v6
 have o_u6 := Ke.h o_u6
 have o_a6 := Ke.h o_a6
 have f_t6 := Ke.h f_t6
 clear r_res5 r_rq5 r_x5 c_x5 o_v5 o_u5 o_a5 f_t5 cu5 bw5
 have c_x6 := Ke.c r_x6
 have c_w6 := Ke.c r_w6
 clear q0
 go_upto_block 0 with fail
 go_cut [9] (fun s9 wx => ∃ (hq : Hd) (nq : Int) (xq : List ByteArray) (lo_tx hi_tx : Nat) (ao_tx : Option Addr) (L_tx cap_tx : Nat), s9 = .int .i64 (N : Int) ∧ (hq.r.size ≤ 32) ∧ (xq.length ≤ 9) ∧ (∀ s ∈ xq, s.size ≤ 3) ∧ Below w.heap.size w wx ∧ W6.heap.size ≤ wx.heap.size ∧ Cur wx (W1.heap.size) (.slice aob (bs xs).length capb) xs.length ∧ Below W1.heap.size W1 wx ∧ wx.heap[w.heap.size]? = some (.cells #[.int .i64 0, .slice none 0 0, .int .i64 0, .string ⟨#[]⟩, .slice none 0 0, .int .i64 0, .int .i64 0, .string ⟨#[]⟩] 32 (0, 0)) ∧ wx.heap[w.heap.size + 1]? = some (.cells #[.int .i64 0, .int .i64 0, .int .i64 0, .int .i64 0, .string ⟨#[]⟩, .int .i64 0, .slice none 0 0] 35 (0, 0)) ∧ wx.heap[W3.heap.size]? = some (.cells #[.int .i64 m.id, .slice ao_v m.st.l.length cap_v, .int .i64 m.st.h.n, .string m.st.h.r, .slice ao_u L_u cap_u, .int .i64 m.st.s, .int .i64 m.b.n, .string m.b.r] 32 (0, 0)) ∧ wx.heap[g_w]? = some (.cells #[.int .i64 ki, .int .i64 5, .int .i64 m.id, .int .i64 hq.n, .string hq.r, .int .i64 nq, .slice ao_tx L_tx cap_tx] 35 (0, 0)) ∧ Own wx (W2.heap.size) (W3.heap.size) 9 (.slice ao_v m.st.l.length cap_v) (ss m.st.l) ∧ Own wx (W2.heap.size) (W3.heap.size) 5 (.slice ao_u L_u cap_u) (bs m.st.b) ∧ Oht wx W2.heap.size W3.heap.size (.slice ao_t t.length cap_t) t ∧ W6.heap.size ≤ lo_tx ∧ lo_tx ≤ hi_tx ∧ hi_tx ≤ wx.heap.size ∧ Own wx lo_tx hi_tx 9 (.slice ao_tx L_tx cap_tx) (ss xq))
 case first =>
  by_cases k1 : ki = 1
  ·have k1c : (ki == 1) = true := by rw [k1]; rfl
   clear k1
   go_wp2_with fail
   refine (below_any W1 W6 (W1.heap.size) _ xs (t.length : Int) (by omega) (by omega) HSW.out hby hx bw6.out (Nat.le_refl _) cu6.out).mono ?_
   rintro e W7 ⟨y, rfl, hy0, hy9, d7⟩
   have z7 := d7.apart.size
   have B7 : Hid (Below w.heap.size w W7) := B1.out.trans (d7.below.mono B1.out.size)
   have cu7 := Kd.e d7
   have bw7 := Kd.f d7
   have r_res7 := Kd.r r_res6 d7
   have r_rq7 := Kd.r r_rq6 d7
   have r_x7 := Kd.r r_x6 d7
   have r_w7 := Kd.r r_w6 d7
   have o_v7 := Kd.o o_v6 d7
   have o_u7 := Kd.o o_u6 d7
   have o_a7 := Kd.o o_a6 d7
   have f_t7 := Kd.t f_t6 d7
   have c_x7 := Ke.c r_x7
   have c_w7 := Ke.c r_w7
   clear r_res6 r_rq6 r_x6 c_x6 r_w6 c_w6 o_v6 o_u6 o_a6
   clear cu6 bw6 d7 f_t6
   obtain ⟨d, rfl⟩ : ∃ d : Nat, y = (d : Int) := ⟨y.toNat, by omega⟩
   have hd9 : d < t.length := by omega
   obtain ⟨q, hq⟩ : ∃ q, t[d]? = some q := ⟨t[d], by simp [hd9]⟩
   have hqz : q.r.size ≤ 32 := HTZ.out q (List.mem_of_getElem? hq)
   obtain ⟨gq, oq, cq, he, _, m0, m1⟩ := Sh.at f_t7.out.1.sh hq
   simp only [Value.slice.injEq] at he
   obtain ⟨rfl, _, rfl⟩ := he
   clear hq
   go_wp2_with (refine wpl_partG rfl 26 _ _ rfl (g_w) 3 (hc q) rfl rfl [.int .i64 ki, .int .i64 5, .int .i64 m.id, .int .i64 M.n, .string M.r, .int .i64 0, .slice none 0 0] 35 r_w7.out (Nat.le_of_ble_eq_true rfl) (sizeH _) (oneH _) [.int .i64 ki, .int .i64 5, .int .i64 m.id, .int .i64 q.n, .string q.r, .int .i64 0, .slice none 0 0] rfl ?_)
   intro W8 r_w8 g8
   have f_t8 := Ke.h (Oht.gro f_t7.out g8 (fun k9 h9 => by injection h9 with h9; omega))
   have cu8 := Ke.h (cu7.out.gro g8 (fun h9 => by injection h9 with h9; omega))
   have bw8 := Ke.i bw7 g8
   clear cu7 bw7
   have r_w8 : Hid (W8.heap[g_w]? = some (.cells #[.int .i64 ki, .int .i64 5, .int .i64 m.id, .int .i64 q.n, .string q.r, .int .i64 0, .slice none 0 0] 35 (0, 0))) := r_w8
   have z8 := g8.size
   have B8 := Ke.i B7 g8
   have r_res8 := Ke.s r_res7 g8
   have r_rq8 := Ke.s r_rq7 g8
   have r_x8 := Ke.s r_x7 g8
   have o_v8 := Ke.t o_v7 r_w7 g8
   have o_u8 := Ke.t o_u7 r_w7 g8
   have o_a8 := Ke.t o_a7 r_w7 g8
   have c_x8 := Ke.c r_x8
   have c_w8 := Ke.c r_w8
   clear r_res7 r_rq7 r_x7 c_x7 o_v7 o_u7 o_a7
   clear r_w7 c_w7
   clear f_t7
   clear g8
   go_wp2_with fail
   go_meet
   exact ⟨q, 0, [], W8.heap.size, W8.heap.size, none, 0, 0, rfl, (hqz), (by simp), (fun s h9 => by cases h9), B8.out, by omega, cu8.out, bw8.out, r_res8.out, r_rq8.out, r_x8.out, r_w8.out, o_v8.out, o_u8.out, f_t8.out, by omega, by omega, by omega, nil9M _ _ _⟩
  ·have k1c : (ki == 1) = false := by rw [beq_eq_false_iff_ne]; exact k1
   by_cases k2 : ki = 2
   ·have k2c : (ki == 2) = true := by rw [k2]; rfl
    clear k1 k2
    have w1 : IntKind.i64.wrap ((N : Int) + 1) = (N : Int) + 1 := by rw [IntKind.wrap_i64]; omega
    go_wp2_with fail
    refine (below_any W1 W6 (W1.heap.size) _ xs ((N : Int) + 1) (by omega) (by omega) HSW.out hby hx bw6.out (Nat.le_refl _) cu6.out).mono ?_
    rintro e W7 ⟨y, rfl, hy0, hy9, d7⟩
    have z7 := d7.apart.size
    have B7 : Hid (Below w.heap.size w W7) := B1.out.trans (d7.below.mono B1.out.size)
    have cu7 := Kd.e d7
    have bw7 := Kd.f d7
    have r_res7 := Kd.r r_res6 d7
    have r_rq7 := Kd.r r_rq6 d7
    have r_x7 := Kd.r r_x6 d7
    have r_w7 := Kd.r r_w6 d7
    have o_v7 := Kd.o o_v6 d7
    have o_u7 := Kd.o o_u6 d7
    have o_a7 := Kd.o o_a6 d7
    have f_t7 := Kd.t f_t6 d7
    have c_x7 := Ke.c r_x7
    have c_w7 := Ke.c r_w7
    clear r_res6 r_rq6 r_x6 c_x6 r_w6 c_w6 o_v6 o_u6 o_a6
    clear cu6 bw6 d7 f_t6
    obtain ⟨d, rfl⟩ : ∃ d : Nat, y = (d : Int) := ⟨y.toNat, by omega⟩
    have hd9 : d ≤ all.length := by omega
    have hdc : (d : Int) ≤ (cap_a : Int) := by omega
    obtain ⟨M2, hM2⟩ : ∃ M, headOf (all.take d) = M := ⟨_, rfl⟩
    have hM3 := headOf_size (all.take d)
    have hM4 := headN (l := all.take d) (by rw [List.length_take]; omega)
    rw [List.length_take] at hM4
    rw [hM2] at hM3 hM4
    have hM5 : 0 ≤ M2.n ∧ M2.n ≤ 9 := by omega
    clear hM4
    have q1 : ∀ W v1, Sl W v1 (ss (all.take d)) → _ := fun W v1 h1 => headOf_spec W v1 (all.take d) h1 (by rw [List.length_take]; omega) (fun s h9 => Nat.le_trans (HAZ.out s (List.mem_of_mem_take h9)) (by omega))
    simp only [hM2] at q1
    clear hM2
    obtain ⟨hM5a, hM5b⟩ := hM5
    have HF : Hid (∀ W, Sl W (.slice (some ⟨ga, 0, none⟩) all.length cap_a) (ss all) → Sl W (.slice (some ⟨ga, 0, none⟩) d cap_a) (ss (all.take d))) := by
     intro W h9
     have h8 := Sl.front h9 d (by rw [ss_len]; omega)
     have e8 : ss (all.take d) = (ss all).take d := by { unfold ss; rw [List.map_take] }
     rw [e8]; exact h8
    go_wp2_with fail
    refine (q1 W7 _ (HF.out _ o_a7.out.sl)).mono ?_
    rintro e W8 ⟨rfl, b8⟩
    have z8 := b8.size
    have B8 := Ke.b B7 b8
    have r_res8 := Ke.r r_res7 b8
    have r_rq8 := Ke.r r_rq7 b8
    have r_x8 := Ke.r r_x7 b8
    have r_w8 := Ke.r r_w7 b8
    have o_v8 := Ke.o o_v7 b8
    have o_u8 := Ke.o o_u7 b8
    have o_a8 := Ke.o o_a7 b8
    have c_x8 := Ke.c r_x8
    have c_w8 := Ke.c r_w8
    clear r_res7 r_rq7 r_x7 c_x7 r_w7 c_w7 o_v7 o_u7 o_a7
    have f_t8 := Ke.h (Oht.later f_t7.out b8)
    clear f_t7
    have cu8 := Kd.c cu7 b8
    have bw8 := Ke.b bw7 b8
    clear cu7 bw7
    clear HF q1
    go_wp2_with (refine wpl_partG rfl 26 _ _ rfl (g_w) 3 (hc M2) rfl rfl [.int .i64 ki, .int .i64 5, .int .i64 m.id, .int .i64 M.n, .string M.r, .int .i64 0, .slice none 0 0] 35 r_w8.out (Nat.le_of_ble_eq_true rfl) (sizeH _) (oneH _) [.int .i64 ki, .int .i64 5, .int .i64 m.id, .int .i64 M2.n, .string M2.r, .int .i64 0, .slice none 0 0] rfl ?_)
    intro W9 r_w9 g9
    have f_t9 := Ke.h (Oht.gro f_t8.out g9 (fun k9 h9 => by injection h9 with h9; omega))
    have cu9 := Ke.h (cu8.out.gro g9 (fun h9 => by injection h9 with h9; omega))
    have bw9 := Ke.i bw8 g9
    clear cu8 bw8
    have r_w9 : Hid (W9.heap[g_w]? = some (.cells #[.int .i64 ki, .int .i64 5, .int .i64 m.id, .int .i64 M2.n, .string M2.r, .int .i64 0, .slice none 0 0] 35 (0, 0))) := r_w9
    have z9 := g9.size
    have B9 := Ke.i B8 g9
    have r_res9 := Ke.s r_res8 g9
    have r_rq9 := Ke.s r_rq8 g9
    have r_x9 := Ke.s r_x8 g9
    have o_v9 := Ke.t o_v8 r_w8 g9
    have o_u9 := Ke.t o_u8 r_w8 g9
    have o_a9 := Ke.t o_a8 r_w8 g9
    have c_x9 := Ke.c r_x9
    have c_w9 := Ke.c r_w9
    clear r_res8 r_rq8 r_x8 c_x8 o_v8 o_u8 o_a8
    clear r_w8 c_w8
    clear f_t8
    clear g9
    by_cases hp : 0 < M2.n
    ·go_wp2_with fail
     refine (below_any W1 W9 (W1.heap.size) _ xs M2.n (by omega) (by omega) HSW.out hby hx bw9.out (Nat.le_refl _) cu9.out).mono ?_
     rintro e W10 ⟨z, rfl, hz0, hz9, d10⟩
     have z10 := d10.apart.size
     have B10 : Hid (Below w.heap.size w W10) := B1.out.trans (d10.below.mono B1.out.size)
     have cu10 := Kd.e d10
     have bw10 := Kd.f d10
     have r_res10 := Kd.r r_res9 d10
     have r_rq10 := Kd.r r_rq9 d10
     have r_x10 := Kd.r r_x9 d10
     have r_w10 := Kd.r r_w9 d10
     have o_v10 := Kd.o o_v9 d10
     have o_u10 := Kd.o o_u9 d10
     have o_a10 := Kd.o o_a9 d10
     have f_t10 := Kd.t f_t9 d10
     have c_x10 := Ke.c r_x10
     have c_w10 := Ke.c r_w10
     clear r_res9 r_rq9 r_x9 c_x9 r_w9 c_w9 o_v9 o_u9 o_a9
     clear cu9 bw9 d10 f_t9
     go_wp2_with (refine wpl_oneG rfl 3 _ _ rfl (g_w) 5 (.int .i64 z) rfl rfl [.int .i64 ki, .int .i64 5, .int .i64 m.id, .int .i64 M2.n, .string M2.r, .int .i64 0, .slice none 0 0] 35 r_w10.out (Nat.le_of_ble_eq_true rfl) (by kernel_rfl) rfl [.int .i64 ki, .int .i64 5, .int .i64 m.id, .int .i64 M2.n, .string M2.r, .int .i64 z, .slice none 0 0] rfl ?_)
     intro W11 r_w11 g11
     have f_t11 := Ke.h (Oht.gro f_t10.out g11 (fun k9 h9 => by injection h9 with h9; omega))
     have cu11 := Ke.h (cu10.out.gro g11 (fun h9 => by injection h9 with h9; omega))
     have bw11 := Ke.i bw10 g11
     clear cu10 bw10
     have r_w11 : Hid (W11.heap[g_w]? = some (.cells #[.int .i64 ki, .int .i64 5, .int .i64 m.id, .int .i64 M2.n, .string M2.r, .int .i64 z, .slice none 0 0] 35 (0, 0))) := r_w11
     have z11 := g11.size
     have B11 := Ke.i B10 g11
     have r_res11 := Ke.s r_res10 g11
     have r_rq11 := Ke.s r_rq10 g11
     have r_x11 := Ke.s r_x10 g11
     have o_v11 := Ke.t o_v10 r_w10 g11
     have o_u11 := Ke.t o_u10 r_w10 g11
     have c_x11 := Ke.c r_x11
     have c_w11 := Ke.c r_w11
     clear r_res10 r_rq10 r_x10 c_x10 o_v10 o_u10 o_a10
     clear r_w10 c_w10
     clear f_t10
     clear g11
     go_wp2_with fail
     go_meet
     exact ⟨M2, z, [], W11.heap.size, W11.heap.size, none, 0, 0, rfl, (hM3), (by simp), (fun s h9 => by cases h9), B11.out, by omega, cu11.out, bw11.out, r_res11.out, r_rq11.out, r_x11.out, r_w11.out, o_v11.out, o_u11.out, f_t11.out, by omega, by omega, by omega, nil9M _ _ _⟩
    ·go_wp2_with fail
     go_meet
     exact ⟨M2, 0, [], W9.heap.size, W9.heap.size, none, 0, 0, rfl, (hM3), (by simp), (fun s h9 => by cases h9), B9.out, by omega, cu9.out, bw9.out, r_res9.out, r_rq9.out, r_x9.out, r_w9.out, o_v9.out, o_u9.out, f_t9.out, by omega, by omega, by omega, nil9M _ _ _⟩
   ·have k2c : (ki == 2) = false := by rw [beq_eq_false_iff_ne]; exact k2
    clear k1 k2
    go_wp2_with (refine wpl_oneG rfl 3 _ _ rfl (g_w) 5 (.int .i64 (N : Int)) rfl rfl [.int .i64 ki, .int .i64 5, .int .i64 m.id, .int .i64 M.n, .string M.r, .int .i64 0, .slice none 0 0] 35 r_w6.out (Nat.le_of_ble_eq_true rfl) (by kernel_rfl) rfl [.int .i64 ki, .int .i64 5, .int .i64 m.id, .int .i64 M.n, .string M.r, .int .i64 (N : Int), .slice none 0 0] rfl ?_)
    intro W7 r_w7 g7
    have f_t7 := Ke.h (Oht.gro f_t6.out g7 (fun k9 h9 => by injection h9 with h9; omega))
    have cu7 := Ke.h (cu6.out.gro g7 (fun h9 => by injection h9 with h9; omega))
    have bw7 := Ke.i bw6 g7
    clear cu6 bw6
    have r_w7 : Hid (W7.heap[g_w]? = some (.cells #[.int .i64 ki, .int .i64 5, .int .i64 m.id, .int .i64 M.n, .string M.r, .int .i64 (N : Int), .slice none 0 0] 35 (0, 0))) := r_w7
    have z7 := g7.size
    have B7 := Ke.i B6 g7
    have r_res7 := Ke.s r_res6 g7
    have r_rq7 := Ke.s r_rq6 g7
    have r_x7 := Ke.s r_x6 g7
    have o_v7 := Ke.t o_v6 r_w6 g7
    have o_u7 := Ke.t o_u6 r_w6 g7
    have o_a7 := Ke.t o_a6 r_w6 g7
    have c_x7 := Ke.c r_x7
    have c_w7 := Ke.c r_w7
    clear r_res6 r_rq6 r_x6 c_x6 o_v6 o_u6 o_a6
    clear r_w6 c_w6
    clear f_t6
    clear g7
    by_cases hlt : N < all.length
    ·have hlt2 : (N : Int) < (all.length : Int) := by omega
     have hcd : ¬ cap_a = N := by omega
     have hcN : (N : Int) ≤ (all.length : Int) := by omega
     have hcN2 : (all.length : Int) ≤ (cap_a : Int) := by omega
     go_wp2_with fail
     refine wp_region_held_drew (S := fun w' => (∀ j, w'.cell? ⟨W3.heap.size, j, none⟩ = #[.int .i64 m.id, .slice ao_v m.st.l.length cap_v, .int .i64 m.st.h.n, .string m.st.h.r, .slice ao_u L_u cap_u, .int .i64 m.st.s, .int .i64 m.b.n, .string m.b.r][j]?)) (by kernel_rfl) c_x7 (fun hHeld => ?_)
     obtain ⟨W8, HW8, b8⟩ := Ke.v W7
     have HHW8 := HW8.out
     rw [HHW8] at hHeld ⊢
     clear HHW8
     have z8 := b8.size
     have B8 := Ke.b B7 b8
     have r_res8 := Ke.r r_res7 b8
     have r_rq8 := Ke.r r_rq7 b8
     have r_x8 := Ke.r r_x7 b8
     have r_w8 := Ke.r r_w7 b8
     have o_v8 := Ke.o o_v7 b8
     have o_u8 := Ke.o o_u7 b8
     have o_a8 := Ke.o o_a7 b8
     have c_x8 := Ke.c r_x8
     have c_w8 := Ke.c r_w8
     clear r_res7 r_rq7 r_x7 c_x7 r_w7 c_w7 o_v7 o_u7 o_a7
     have f_t8 := Ke.h (Oht.later f_t7.out b8)
     clear f_t7
     have cu8 := Kd.c cu7 b8
     have bw8 := Ke.b bw7 b8
     clear cu7 bw7
     refine Ke.q 0 ?_; try simp only [Act.put, pq]
     refine Ke.q 2 ?_; try simp only [Act.put, pq]
     refine Ke.q 3 ?_; try simp only [Act.put, pq]
     refine Ke.q 4 ?_; try simp only [Act.put, pq]
     refine Ke.z 1 rfl (fun K hK => ?_)
     go_simp
     refine hK.out _ _ hHeld (fun hHeld => ?_)
     clear hK K
     try simp only [Act.put, pq]
     have o_z08 : Hid (Own W8 (W8.heap.size) (W8.heap.size) 9 (.slice none 0 0) (ss [])) := nil9M _ _ _
     refine Ke.z 5 rfl (fun K hK => ?_)
     have c6_9 : (ss []).length + (ss (all.drop N)).length ≤ maxLen := by rw [ss_len, ss_len]; unfold maxLen; (try simp only [List.length_nil]); (try rw [List.length_drop]); omega
     have c7_9 : ((ss []).length + (ss (all.drop N)).length) * 16 ≤ 140737488355328 := by rw [ss_len, ss_len]; (try simp only [List.length_nil]); (try rw [List.length_drop]); omega
     refine step_appG (by rfl) (.tmp 47) (.tmp 50) 24 (by rfl) 9 i9 (.string ⟨#[]⟩) 16 Tryz.underlying24 hi9 hz9a hz9b hz9c rfl (W8.heap.size) _ (ss []) (by rfl) (Own.mono o_z08.out (Nat.le_refl _) (by omega)) _ (by rfl) (ss (all.drop N)) ((by have h9 := slBack o_a8.out.sl N (by rw [ss_len]; omega); rw [Nat.zero_add] at h9; have e9 : ss (all.drop N) = (ss all).drop N := by { unfold ss; rw [List.map_drop] }; rw [e9]; exact h9)) (ss_one (all.drop N)) c6_9 c7_9 (by omega) ?_
     intro v_tx W9 o_tx9 g9
     refine hK.out _ _ (Ke.g hHeld g9 (Own.neRow o_z08.out r_x8.out (by decide))) (fun hHeld => ?_)
     clear hK K
     try simp only [Act.put, pq]
     have o_tx9 : Own W9 (W8.heap.size) W9.heap.size 9 v_tx (ss (all.drop N)) := o_tx9
     have o_tx9h : Hid (Own W9 (W8.heap.size) W9.heap.size 9 v_tx (ss (all.drop N))) := o_tx9
     have f_t9 : Hid (Oht W9 W2.heap.size W3.heap.size (.slice ao_t t.length cap_t) t) := Oht.gro f_t8.out g9 (Own.far o_z08.out (by omega))
     have cu9 : Hid (Cur W9 (W1.heap.size) (.slice aob (bs xs).length capb) xs.length) := cu8.out.groOwn o_z08.out g9 (by decide)
     have bw9 : Hid (Below W1.heap.size W1 W9) := belowGro bw8.out g9 bw8.out.size (Own.low o_z08.out (by omega))
     clear cu8 bw8
     clear o_tx9
     have o_tx9 := o_tx9h
     clear o_tx9h
     obtain ⟨ao_tx, L_tx, cap_tx, rfl, _, _⟩ := Mem.Own.form o_tx9.out
     have z9 := g9.size
     have B9 : Hid (Below w.heap.size w W9) := belowGro B8.out g9 B8.out.size (Own.low o_z08.out (by have := B8.out.size; omega))
     have r_res9 := Ke.n r_res8 o_z08 g9
     have r_rq9 := Ke.n r_rq8 o_z08 g9
     have r_x9 := Ke.n r_x8 o_z08 g9
     have r_w9 := Ke.n r_w8 o_z08 g9
     have o_v9 : Hid (Own W9 (W2.heap.size) (W3.heap.size) 9 (.slice ao_v m.st.l.length cap_v) (ss m.st.l)) := Own.gro o_v8.out g9 (Own.neFar o_z08.out o_v8.out (by omega))
     have o_u9 : Hid (Own W9 (W2.heap.size) (W3.heap.size) 5 (.slice ao_u L_u cap_u) (bs m.st.b)) := Own.gro o_u8.out g9 (Own.neOwn o_z08.out o_u8.out (by decide))
     have o_a9 : Hid (Own W9 (W2.heap.size) (W3.heap.size) 9 (.slice (some ⟨ga, 0, none⟩) all.length cap_a) (ss all)) := Own.gro o_a8.out g9 (Own.neFar o_z08.out o_a8.out (by omega))
     have c_x9 := Ke.c r_x9
     have c_w9 := Ke.c r_w9
     clear r_res8 r_rq8 r_x8 c_x8 r_w8 c_w8 o_v8 o_u8 o_a8 o_z08
     clear f_t8
     clear g9 c6_9 c7_9
     refine Ke.q 6 ?_; try simp only [Act.put, pq]
     refine Ke.z 7 rfl (fun K hK => ?_)
     rw [if_pos (by rfl)]
     refine wp_oneG 24 _ _ rfl (g_w) 6 (.slice ao_tx L_tx cap_tx) rfl rfl [.int .i64 ki, .int .i64 5, .int .i64 m.id, .int .i64 M.n, .string M.r, .int .i64 (N : Int), .slice none 0 0] 35 r_w9.out (Nat.le_of_ble_eq_true rfl) (by kernel_rfl) rfl [.int .i64 ki, .int .i64 5, .int .i64 m.id, .int .i64 M.n, .string M.r, .int .i64 (N : Int), .slice ao_tx L_tx cap_tx] rfl ?_
     intro W10 r_w10 g10
     refine hK.out _ _ (Ke.g hHeld g10 (by show some (g_w) ≠ some (W3.heap.size); intro h9; injection h9 with h9; omega)) (fun hHeld => ?_)
     clear hK K
     try simp only [Act.put, pq]
     have f_t10 := Ke.h (Oht.gro f_t9.out g10 (fun k9 h9 => by injection h9 with h9; omega))
     have cu10 := Ke.h (cu9.out.gro g10 (fun h9 => by injection h9 with h9; omega))
     have bw10 := Ke.i bw9 g10
     clear cu9 bw9
     have r_w10 : Hid (W10.heap[g_w]? = some (.cells #[.int .i64 ki, .int .i64 5, .int .i64 m.id, .int .i64 M.n, .string M.r, .int .i64 (N : Int), .slice ao_tx L_tx cap_tx] 35 (0, 0))) := r_w10
     have z10 := g10.size
     have B10 := Ke.i B9 g10
     have r_res10 := Ke.s r_res9 g10
     have r_rq10 := Ke.s r_rq9 g10
     have r_x10 := Ke.s r_x9 g10
     have o_v10 := Ke.t o_v9 r_w9 g10
     have o_u10 := Ke.t o_u9 r_w9 g10
     have o_a10 := Ke.t o_a9 r_w9 g10
     have o_tx10 := Ke.t o_tx9 r_w9 g10
     have c_x10 := Ke.c r_x10
     have c_w10 := Ke.c r_w10
     clear r_res9 r_rq9 r_x9 c_x9 o_v9 o_u9 o_a9 o_tx9
     clear r_w9 c_w9
     clear f_t9
     clear g10
     refine wpAnyH_done (by kernel_rfl) ?_ _
     clear hHeld
     go_wp2_with fail
     go_meet
     exact ⟨M, N, (all.drop N), W8.heap.size, W9.heap.size, ao_tx, L_tx, cap_tx, rfl, (hMz), (by (try rw [List.length_drop]); omega), (fun s h9 => HAZ.out s (List.mem_of_mem_drop h9)), B10.out, by omega, cu10.out, bw10.out, r_res10.out, r_rq10.out, r_x10.out, r_w10.out, o_v10.out, o_u10.out, f_t10.out, by omega, by omega, by omega, o_tx10.out⟩
    ·have hlt2 : ¬ (N : Int) < (all.length : Int) := by omega
     go_wp2_with fail
     go_meet
     exact ⟨M, N, [], W7.heap.size, W7.heap.size, none, 0, 0, rfl, (hMz), (by simp), (fun s h9 => by cases h9), B7.out, by omega, cu7.out, bw7.out, r_res7.out, r_rq7.out, r_x7.out, r_w7.out, o_v7.out, o_u7.out, f_t7.out, by omega, by omega, by omega, nil9M _ _ _⟩
 case rest =>
 obtain ⟨hq, nq, xq, lo_tx, hi_tx, ao_tx, L_tx, cap_tx, rfl, hqz, hxl, hxz, B7, z7, cu7, bw7, r_res7, r_rq7, r_x7, r_w7, o_v7, o_u7, f_t7, d1_tx, d2_tx, d3_tx, o_tx7⟩ := hcut
 revert B7 z7 cu7 bw7 r_res7 r_rq7 r_x7 r_w7 o_v7 o_u7 f_t7 d1_tx d2_tx d3_tx o_tx7
 generalize wc = W7
 intro B7 z7 cu7 bw7 r_res7 r_rq7 r_x7 r_w7 o_v7 o_u7 f_t7 d1_tx d2_tx d3_tx o_tx7
 have B7 := Ke.h B7
 have cu7 := Ke.h cu7
 have bw7 := Ke.h bw7
 have r_res7 := Ke.h r_res7
 have r_rq7 := Ke.h r_rq7
 have r_x7 := Ke.h r_x7
 have r_w7 := Ke.h r_w7
 have o_v7 := Ke.h o_v7
 have o_u7 := Ke.h o_u7
 have f_t7 := Ke.h f_t7
 have o_tx7 := Ke.h o_tx7
 clear r_res6 r_rq6 r_x6 c_x6 r_w6 c_w6 o_v6 o_u6 o_a6 f_t6 cu6 bw6
 have c_x7 := Ke.c r_x7
 have c_w7 := Ke.c r_w7
 have HXZ : Hid (∀ s ∈ xq, s.size ≤ 3) := hxz
 clear hxz
 obtain rfl : L_tx = xq.length := by obtain ⟨a9, L9, c9, he, h1, h2⟩ := Mem.Own.form o_tx7.out; injection he with _ he2 _; rw [ss_len] at h1 h2; omega
 go_wp2_with fail
 refine (below_any W1 W7 (W1.heap.size) _ xs 8 (by omega) (by omega) HSW.out hby hx bw7.out (Nat.le_refl _) cu7.out).mono ?_
 rintro e W8 ⟨y, rfl, hy0, hy8, d8⟩
 have z8 := d8.apart.size
 have B8 : Hid (Below w.heap.size w W8) := B1.out.trans (d8.below.mono B1.out.size)
 have cu8 := Kd.e d8
 have bw8 := Kd.f d8
 have r_res8 := Kd.r r_res7 d8
 have r_rq8 := Kd.r r_rq7 d8
 have r_x8 := Kd.r r_x7 d8
 have r_w8 := Kd.r r_w7 d8
 have o_v8 := Kd.o o_v7 d8
 have o_u8 := Kd.o o_u7 d8
 have o_tx8 := Kd.o o_tx7 d8
 have f_t8 := Kd.t f_t7 d8
 have c_x8 := Ke.c r_x8
 have c_w8 := Ke.c r_w8
 clear r_res7 r_rq7 r_x7 c_x7 r_w7 c_w7 o_v7 o_u7 o_tx7
 clear cu7 bw7 d8 f_t7
 by_cases y0 : y = 0
 ·subst y0
  go_wp2_with fail
  refine (Mg.bend13 W1 W8 (W1.heap.size) _ xs _ (⟨ki, 5, m.id, hq, nq, xq⟩ : Ms) o_tx8.out.sl ⟨hxl, HXZ.out, hqz⟩ HSW.out hby hx bw8.out (Nat.le_refl _) cu8.out).mono ?_
  rintro e W9 ⟨q2, v_n, rfl, hq2, o_n9, d9⟩
  obtain ⟨ao_n, L_n, cap_n, rfl, hL_n, hM_n⟩ := o_n9.form
  have o_n9 : Hid (Own W9 W8.heap.size W9.heap.size 9 (.slice ao_n L_n cap_n) (ss q2.x)) := o_n9
  clear hL_n hM_n
  have z9 := d9.apart.size
  have B9 : Hid (Below w.heap.size w W9) := B1.out.trans (d9.below.mono B1.out.size)
  have cu9 := Kd.e d9
  have bw9 := Kd.f d9
  have r_res9 := Kd.r r_res8 d9
  have r_rq9 := Kd.r r_rq8 d9
  have r_x9 := Kd.r r_x8 d9
  have r_w9 := Kd.r r_w8 d9
  have o_v9 := Kd.o o_v8 d9
  have o_u9 := Kd.o o_u8 d9
  have o_tx9 := Kd.o o_tx8 d9
  have f_t9 := Kd.t f_t8 d9
  have c_x9 := Ke.c r_x9
  have c_w9 := Ke.c r_w9
  clear r_res8 r_rq8 r_x8 c_x8 r_w8 c_w8 o_v8 o_u8 o_tx8
  clear cu8 bw8 d9 f_t8
  go_wp2_with (refine wpl_partG rfl 35 _ _ rfl (g_w) 0 (mc q2 (.slice ao_n L_n cap_n)) rfl rfl [.int .i64 ki, .int .i64 5, .int .i64 m.id, .int .i64 hq.n, .string hq.r, .int .i64 nq, .slice ao_tx xq.length cap_tx] 35 r_w9.out (Nat.le_of_ble_eq_true rfl) (sizeM _ _) (oneM _ rfl) [.int .i64 q2.k, .int .i64 q2.f, .int .i64 q2.t, .int .i64 q2.h.n, .string q2.h.r, .int .i64 q2.n, .slice ao_n L_n cap_n] rfl ?_)
  intro W10 r_w10 g10
  have f_t10 := Ke.h (Oht.gro f_t9.out g10 (fun k9 h9 => by injection h9 with h9; omega))
  have cu10 := Ke.h (cu9.out.gro g10 (fun h9 => by injection h9 with h9; omega))
  have bw10 := Ke.i bw9 g10
  clear cu9 bw9
  have r_w10 : Hid (W10.heap[g_w]? = some (.cells #[.int .i64 q2.k, .int .i64 q2.f, .int .i64 q2.t, .int .i64 q2.h.n, .string q2.h.r, .int .i64 q2.n, .slice ao_n L_n cap_n] 35 (0, 0))) := r_w10
  have z10 := g10.size
  have B10 := Ke.i B9 g10
  have r_res10 := Ke.s r_res9 g10
  have r_rq10 := Ke.s r_rq9 g10
  have r_x10 := Ke.s r_x9 g10
  have o_v10 := Ke.t o_v9 r_w9 g10
  have o_u10 := Ke.t o_u9 r_w9 g10
  have o_tx10 := Ke.t o_tx9 r_w9 g10
  have o_n10 := Ke.t o_n9 r_w9 g10
  have c_x10 := Ke.c r_x10
  have c_w10 := Ke.c r_w10
  clear r_res9 r_rq9 r_x9 c_x9 o_v9 o_u9 o_tx9 o_n9
  clear r_w9 c_w9
  clear f_t9
  clear g10
  clear cu10 bw10
  go_wp2_with fail
  refine wp_region_held_drew (S := fun w' => (∀ j, w'.cell? ⟨W3.heap.size, j, none⟩ = #[.int .i64 m.id, .slice ao_v m.st.l.length cap_v, .int .i64 m.st.h.n, .string m.st.h.r, .slice ao_u L_u cap_u, .int .i64 m.st.s, .int .i64 m.b.n, .string m.b.r][j]?) ∧ (∀ j, w'.cell? ⟨g_w, j, none⟩ = #[.int .i64 q2.k, .int .i64 q2.f, .int .i64 q2.t, .int .i64 q2.h.n, .string q2.h.r, .int .i64 q2.n, .slice ao_n L_n cap_n][j]?)) (by kernel_rfl) ⟨c_x10, c_w10⟩ (fun hHeld => ?_)
  obtain ⟨W11, HW11, b11⟩ := Ke.v W10
  have HHW11 := HW11.out
  rw [HHW11] at hHeld ⊢
  clear HHW11
  have z11 := b11.size
  have B11 := Ke.b B10 b11
  have r_res11 := Ke.r r_res10 b11
  have r_rq11 := Ke.r r_rq10 b11
  have r_x11 := Ke.r r_x10 b11
  have r_w11 := Ke.r r_w10 b11
  have o_v11 := Ke.o o_v10 b11
  have o_u11 := Ke.o o_u10 b11
  have o_tx11 := Ke.o o_tx10 b11
  have o_n11 := Ke.o o_n10 b11
  have c_x11 := Ke.c r_x11
  have c_w11 := Ke.c r_w11
  clear r_res10 r_rq10 r_x10 c_x10 r_w10 c_w10 o_v10 o_u10 o_tx10 o_n10
  have f_t11 := Ke.h (Oht.later f_t10.out b11)
  clear f_t10
  refine Ke.q 0 ?_; try simp only [Act.put, pq]
  refine Ke.q 1 ?_; try simp only [Act.put, pq]
  refine Ke.q 2 ?_; try simp only [Act.put, pq]
  refine Ke.z 3 rfl (fun K hK => ?_)
  rw [if_pos (by rfl)]
  refine wp_partG 32 _ _ rfl (w.heap.size) 0 (mq m.id (.slice ao_v m.st.l.length cap_v) m.st.h (.slice ao_u L_u cap_u) m.st.s m.b) rfl rfl [.int .i64 0, .slice none 0 0, .int .i64 0, .string ⟨#[]⟩, .slice none 0 0, .int .i64 0, .int .i64 0, .string ⟨#[]⟩] 32 r_res11.out (Nat.le_of_ble_eq_true rfl) (sizeQ _ _ _ _ _ _) (oneQ _ _ _ _ rfl rfl) [.int .i64 m.id, .slice ao_v m.st.l.length cap_v, .int .i64 m.st.h.n, .string m.st.h.r, .slice ao_u L_u cap_u, .int .i64 m.st.s, .int .i64 m.b.n, .string m.b.r] rfl ?_
  intro W12 r_res12 g12
  refine hK.out _ _ ⟨(Ke.g hHeld.1 g12 (by show some (w.heap.size) ≠ some (W3.heap.size); intro h9; injection h9 with h9; omega)), (Ke.g hHeld.2 g12 (by show some (w.heap.size) ≠ some (g_w); intro h9; injection h9 with h9; omega))⟩ (fun hHeld => ?_)
  clear hK K
  try simp only [Act.put, pq]
  have f_t12 := Ke.h (Oht.gro f_t11.out g12 (fun k9 h9 => by injection h9 with h9; omega))
  have r_res12 : Hid (W12.heap[w.heap.size]? = some (.cells #[.int .i64 m.id, .slice ao_v m.st.l.length cap_v, .int .i64 m.st.h.n, .string m.st.h.r, .slice ao_u L_u cap_u, .int .i64 m.st.s, .int .i64 m.b.n, .string m.b.r] 32 (0, 0))) := r_res12
  have z12 := g12.size
  have B12 := Ke.i B11 g12
  have r_rq12 := Ke.s r_rq11 g12
  have o_v12 := Ke.t o_v11 r_res11 g12
  have o_u12 := Ke.t o_u11 r_res11 g12
  have o_tx12 := Ke.t o_tx11 r_res11 g12
  have o_n12 := Ke.t o_n11 r_res11 g12
  clear r_rq11 r_x11 c_x11 r_w11 c_w11 o_v11 o_u11 o_tx11 o_n11
  clear r_res11
  clear f_t11
  clear g12
  refine Ke.q 4 ?_; try simp only [Act.put, pq]
  refine Ke.z 5 rfl (fun K hK => ?_)
  rw [if_pos (by rfl)]
  refine wp_partG 35 _ _ rfl (w.heap.size + 1) 0 (mc q2 (.slice ao_n L_n cap_n)) rfl rfl [.int .i64 0, .int .i64 0, .int .i64 0, .int .i64 0, .string ⟨#[]⟩, .int .i64 0, .slice none 0 0] 35 r_rq12.out (Nat.le_of_ble_eq_true rfl) (sizeM _ _) (oneM _ rfl) [.int .i64 q2.k, .int .i64 q2.f, .int .i64 q2.t, .int .i64 q2.h.n, .string q2.h.r, .int .i64 q2.n, .slice ao_n L_n cap_n] rfl ?_
  intro W13 r_rq13 g13
  refine hK.out _ _ ⟨(Ke.g hHeld.1 g13 (by show some (w.heap.size + 1) ≠ some (W3.heap.size); intro h9; injection h9 with h9; omega)), (Ke.g hHeld.2 g13 (by show some (w.heap.size + 1) ≠ some (g_w); intro h9; injection h9 with h9; omega))⟩ (fun hHeld => ?_)
  clear hK K
  try simp only [Act.put, pq]
  have f_t13 := Ke.h (Oht.gro f_t12.out g13 (fun k9 h9 => by injection h9 with h9; omega))
  have r_rq13 : Hid (W13.heap[w.heap.size + 1]? = some (.cells #[.int .i64 q2.k, .int .i64 q2.f, .int .i64 q2.t, .int .i64 q2.h.n, .string q2.h.r, .int .i64 q2.n, .slice ao_n L_n cap_n] 35 (0, 0))) := r_rq13
  have z13 := g13.size
  have B13 := Ke.i B12 g13
  have r_res13 := Ke.s r_res12 g13
  have o_v13 := Ke.t o_v12 r_rq12 g13
  have o_u13 := Ke.t o_u12 r_rq12 g13
  have o_n13 := Ke.t o_n12 r_rq12 g13
  clear r_res12 o_v12 o_u12 o_tx12 o_n12
  clear r_rq12
  clear f_t12
  clear g13
  refine wpAnyH_done (by kernel_rfl) ?_ _
  clear hHeld
  go_wp2
  exact bodyPost_ret (res_ctc rfl _ _ (w.heap.size) (w.heap.size + 1) 32 35 (mq m.id (.slice ao_v m.st.l.length cap_v) m.st.h (.slice ao_u L_u cap_u) m.st.s m.b) (mc q2 (.slice ao_n L_n cap_n)) _ _ rfl r_res13.out Tryz.underlying32 rfl (sizeQ _ _ _ _ _ _) rfl r_rq13.out Tryz.underlying35 rfl (sizeM _ _)) rfl ⟨m, t, q2, .slice ao_v m.st.l.length cap_v, .slice ao_u L_u cap_u, .slice ao_t t.length cap_t, .slice ao_n L_n cap_n, rfl, HA.out, ht1, ht9, HTZ.out, Dw.of hq2 (by omega), o_v13.out.sl, o_u13.out.sl, f_t13.out.1.sh, o_n13.out.sl, B13.out⟩
 ·have y0b : (y == 0) = false := by rw [beq_eq_false_iff_ne]; exact y0
  by_cases y1 : y = 1
  ·subst y1
   go_wp2_with fail
   refine (Mg.draw13 W1 W8 (W1.heap.size) _ xs HSW.out hby hx bw8.out (Nat.le_refl _) cu8.out).mono ?_
   rintro e W9 ⟨q2, v_n, rfl, hq2, hok2, o_n9, d9⟩
   obtain ⟨ao_n, L_n, cap_n, rfl, hL_n, hM_n⟩ := o_n9.form
   have o_n9 : Hid (Own W9 W8.heap.size W9.heap.size 9 (.slice ao_n L_n cap_n) (ss q2.x)) := o_n9
   clear hL_n hM_n
   have z9 := d9.apart.size
   have B9 : Hid (Below w.heap.size w W9) := B1.out.trans (d9.below.mono B1.out.size)
   have cu9 := Kd.e d9
   have bw9 := Kd.f d9
   have r_res9 := Kd.r r_res8 d9
   have r_rq9 := Kd.r r_rq8 d9
   have r_x9 := Kd.r r_x8 d9
   have r_w9 := Kd.r r_w8 d9
   have o_v9 := Kd.o o_v8 d9
   have o_u9 := Kd.o o_u8 d9
   have o_tx9 := Kd.o o_tx8 d9
   have f_t9 := Kd.t f_t8 d9
   have c_x9 := Ke.c r_x9
   have c_w9 := Ke.c r_w9
   clear r_res8 r_rq8 r_x8 c_x8 r_w8 c_w8 o_v8 o_u8 o_tx8
   clear cu8 bw8 d9 f_t8
   clear hok2
   go_wp2_with (refine wpl_partG rfl 35 _ _ rfl (g_w) 0 (mc q2 (.slice ao_n L_n cap_n)) rfl rfl [.int .i64 ki, .int .i64 5, .int .i64 m.id, .int .i64 hq.n, .string hq.r, .int .i64 nq, .slice ao_tx xq.length cap_tx] 35 r_w9.out (Nat.le_of_ble_eq_true rfl) (sizeM _ _) (oneM _ rfl) [.int .i64 q2.k, .int .i64 q2.f, .int .i64 q2.t, .int .i64 q2.h.n, .string q2.h.r, .int .i64 q2.n, .slice ao_n L_n cap_n] rfl ?_)
   intro W10 r_w10 g10
   have f_t10 := Ke.h (Oht.gro f_t9.out g10 (fun k9 h9 => by injection h9 with h9; omega))
   have cu10 := Ke.h (cu9.out.gro g10 (fun h9 => by injection h9 with h9; omega))
   have bw10 := Ke.i bw9 g10
   clear cu9 bw9
   have r_w10 : Hid (W10.heap[g_w]? = some (.cells #[.int .i64 q2.k, .int .i64 q2.f, .int .i64 q2.t, .int .i64 q2.h.n, .string q2.h.r, .int .i64 q2.n, .slice ao_n L_n cap_n] 35 (0, 0))) := r_w10
   have z10 := g10.size
   have B10 := Ke.i B9 g10
   have r_res10 := Ke.s r_res9 g10
   have r_rq10 := Ke.s r_rq9 g10
   have r_x10 := Ke.s r_x9 g10
   have o_v10 := Ke.t o_v9 r_w9 g10
   have o_u10 := Ke.t o_u9 r_w9 g10
   have o_tx10 := Ke.t o_tx9 r_w9 g10
   have o_n10 := Ke.t o_n9 r_w9 g10
   have c_x10 := Ke.c r_x10
   have c_w10 := Ke.c r_w10
   clear r_res9 r_rq9 r_x9 c_x9 o_v9 o_u9 o_tx9 o_n9
   clear r_w9 c_w9
   clear f_t9
   clear g10
   clear cu10 bw10
   go_wp2_with (refine wpl_oneG rfl 3 _ _ rfl (g_w) 2 (.int .i64 m.id) rfl rfl [.int .i64 q2.k, .int .i64 q2.f, .int .i64 q2.t, .int .i64 q2.h.n, .string q2.h.r, .int .i64 q2.n, .slice ao_n L_n cap_n] 35 r_w10.out (Nat.le_of_ble_eq_true rfl) (by kernel_rfl) rfl [.int .i64 q2.k, .int .i64 q2.f, .int .i64 m.id, .int .i64 q2.h.n, .string q2.h.r, .int .i64 q2.n, .slice ao_n L_n cap_n] rfl ?_)
   intro W11 r_w11 g11
   have f_t11 := Ke.h (Oht.gro f_t10.out g11 (fun k9 h9 => by injection h9 with h9; omega))
   have r_w11 : Hid (W11.heap[g_w]? = some (.cells #[.int .i64 q2.k, .int .i64 q2.f, .int .i64 m.id, .int .i64 q2.h.n, .string q2.h.r, .int .i64 q2.n, .slice ao_n L_n cap_n] 35 (0, 0))) := r_w11
   have z11 := g11.size
   have B11 := Ke.i B10 g11
   have r_res11 := Ke.s r_res10 g11
   have r_rq11 := Ke.s r_rq10 g11
   have r_x11 := Ke.s r_x10 g11
   have o_v11 := Ke.t o_v10 r_w10 g11
   have o_u11 := Ke.t o_u10 r_w10 g11
   have o_tx11 := Ke.t o_tx10 r_w10 g11
   have o_n11 := Ke.t o_n10 r_w10 g11
   have c_x11 := Ke.c r_x11
   have c_w11 := Ke.c r_w11
   clear r_res10 r_rq10 r_x10 c_x10 o_v10 o_u10 o_tx10 o_n10
   clear r_w10 c_w10
   clear f_t10
   clear g11
   go_wp2_with fail
   refine wp_region_held_drew (S := fun w' => (∀ j, w'.cell? ⟨W3.heap.size, j, none⟩ = #[.int .i64 m.id, .slice ao_v m.st.l.length cap_v, .int .i64 m.st.h.n, .string m.st.h.r, .slice ao_u L_u cap_u, .int .i64 m.st.s, .int .i64 m.b.n, .string m.b.r][j]?) ∧ (∀ j, w'.cell? ⟨g_w, j, none⟩ = #[.int .i64 q2.k, .int .i64 q2.f, .int .i64 m.id, .int .i64 q2.h.n, .string q2.h.r, .int .i64 q2.n, .slice ao_n L_n cap_n][j]?)) (by kernel_rfl) ⟨c_x11, c_w11⟩ (fun hHeld => ?_)
   obtain ⟨W12, HW12, b12⟩ := Ke.v W11
   have HHW12 := HW12.out
   rw [HHW12] at hHeld ⊢
   clear HHW12
   have z12 := b12.size
   have B12 := Ke.b B11 b12
   have r_res12 := Ke.r r_res11 b12
   have r_rq12 := Ke.r r_rq11 b12
   have o_v12 := Ke.o o_v11 b12
   have o_u12 := Ke.o o_u11 b12
   have o_tx12 := Ke.o o_tx11 b12
   have o_n12 := Ke.o o_n11 b12
   clear r_res11 r_rq11 r_x11 c_x11 r_w11 c_w11 o_v11 o_u11 o_tx11 o_n11
   have f_t12 := Ke.h (Oht.later f_t11.out b12)
   clear f_t11
   refine Ke.q 0 ?_; try simp only [Act.put, pq]
   refine Ke.q 1 ?_; try simp only [Act.put, pq]
   refine Ke.q 2 ?_; try simp only [Act.put, pq]
   refine Ke.z 3 rfl (fun K hK => ?_)
   rw [if_pos (by rfl)]
   refine wp_partG 32 _ _ rfl (w.heap.size) 0 (mq m.id (.slice ao_v m.st.l.length cap_v) m.st.h (.slice ao_u L_u cap_u) m.st.s m.b) rfl rfl [.int .i64 0, .slice none 0 0, .int .i64 0, .string ⟨#[]⟩, .slice none 0 0, .int .i64 0, .int .i64 0, .string ⟨#[]⟩] 32 r_res12.out (Nat.le_of_ble_eq_true rfl) (sizeQ _ _ _ _ _ _) (oneQ _ _ _ _ rfl rfl) [.int .i64 m.id, .slice ao_v m.st.l.length cap_v, .int .i64 m.st.h.n, .string m.st.h.r, .slice ao_u L_u cap_u, .int .i64 m.st.s, .int .i64 m.b.n, .string m.b.r] rfl ?_
   intro W13 r_res13 g13
   refine hK.out _ _ ⟨(Ke.g hHeld.1 g13 (by show some (w.heap.size) ≠ some (W3.heap.size); intro h9; injection h9 with h9; omega)), (Ke.g hHeld.2 g13 (by show some (w.heap.size) ≠ some (g_w); intro h9; injection h9 with h9; omega))⟩ (fun hHeld => ?_)
   clear hK K
   try simp only [Act.put, pq]
   have f_t13 := Ke.h (Oht.gro f_t12.out g13 (fun k9 h9 => by injection h9 with h9; omega))
   have r_res13 : Hid (W13.heap[w.heap.size]? = some (.cells #[.int .i64 m.id, .slice ao_v m.st.l.length cap_v, .int .i64 m.st.h.n, .string m.st.h.r, .slice ao_u L_u cap_u, .int .i64 m.st.s, .int .i64 m.b.n, .string m.b.r] 32 (0, 0))) := r_res13
   have z13 := g13.size
   have B13 := Ke.i B12 g13
   have r_rq13 := Ke.s r_rq12 g13
   have o_v13 := Ke.t o_v12 r_res12 g13
   have o_u13 := Ke.t o_u12 r_res12 g13
   have o_n13 := Ke.t o_n12 r_res12 g13
   clear r_rq12 o_v12 o_u12 o_tx12 o_n12
   clear r_res12
   clear f_t12
   clear g13
   refine Ke.q 4 ?_; try simp only [Act.put, pq]
   refine Ke.z 5 rfl (fun K hK => ?_)
   rw [if_pos (by rfl)]
   refine wp_partG 35 _ _ rfl (w.heap.size + 1) 0 (mc (⟨q2.k, q2.f, m.id, q2.h, q2.n, q2.x⟩ : Ms) (.slice ao_n L_n cap_n)) rfl rfl [.int .i64 0, .int .i64 0, .int .i64 0, .int .i64 0, .string ⟨#[]⟩, .int .i64 0, .slice none 0 0] 35 r_rq13.out (Nat.le_of_ble_eq_true rfl) (sizeM _ _) (oneM _ rfl) [.int .i64 q2.k, .int .i64 q2.f, .int .i64 m.id, .int .i64 q2.h.n, .string q2.h.r, .int .i64 q2.n, .slice ao_n L_n cap_n] rfl ?_
   intro W14 r_rq14 g14
   refine hK.out _ _ ⟨(Ke.g hHeld.1 g14 (by show some (w.heap.size + 1) ≠ some (W3.heap.size); intro h9; injection h9 with h9; omega)), (Ke.g hHeld.2 g14 (by show some (w.heap.size + 1) ≠ some (g_w); intro h9; injection h9 with h9; omega))⟩ (fun hHeld => ?_)
   clear hK K
   try simp only [Act.put, pq]
   have f_t14 := Ke.h (Oht.gro f_t13.out g14 (fun k9 h9 => by injection h9 with h9; omega))
   have r_rq14 : Hid (W14.heap[w.heap.size + 1]? = some (.cells #[.int .i64 q2.k, .int .i64 q2.f, .int .i64 m.id, .int .i64 q2.h.n, .string q2.h.r, .int .i64 q2.n, .slice ao_n L_n cap_n] 35 (0, 0))) := r_rq14
   have z14 := g14.size
   have B14 := Ke.i B13 g14
   have r_res14 := Ke.s r_res13 g14
   have o_v14 := Ke.t o_v13 r_rq13 g14
   have o_u14 := Ke.t o_u13 r_rq13 g14
   have o_n14 := Ke.t o_n13 r_rq13 g14
   clear r_res13 o_v13 o_u13 o_n13
   clear r_rq13
   clear f_t13
   clear g14
   refine wpAnyH_done (by kernel_rfl) ?_ _
   clear hHeld
   go_wp2
   exact bodyPost_ret (res_ctc rfl _ _ (w.heap.size) (w.heap.size + 1) 32 35 (mq m.id (.slice ao_v m.st.l.length cap_v) m.st.h (.slice ao_u L_u cap_u) m.st.s m.b) (mc (⟨q2.k, q2.f, m.id, q2.h, q2.n, q2.x⟩ : Ms) (.slice ao_n L_n cap_n)) _ _ rfl r_res14.out Tryz.underlying32 rfl (sizeQ _ _ _ _ _ _) rfl r_rq14.out Tryz.underlying35 rfl (sizeM _ _)) rfl ⟨m, t, (⟨q2.k, q2.f, m.id, q2.h, q2.n, q2.x⟩ : Ms), .slice ao_v m.st.l.length cap_v, .slice ao_u L_u cap_u, .slice ao_t t.length cap_t, .slice ao_n L_n cap_n, rfl, HA.out, ht1, ht9, HTZ.out, ⟨by have := hq2.len; simp only; omega, fun s h9 => Nat.le_trans (hq2.sz s h9) (by omega), hq2.hd⟩, o_v14.out.sl, o_u14.out.sl, f_t14.out.1.sh, o_n14.out.sl, B14.out⟩
  ·have y1b : (y == 1) = false := by rw [beq_eq_false_iff_ne]; exact y1
   by_cases y2 : y = 2
   ·subst y2
    clear cu8 bw8
    by_cases hx0 : xq.length = 0
    ·have dx : ¬ (0 : Int) < (xq.length : Int) := by omega
     have HX00 : Hid (xq.length = 0) := hx0
     clear hx0
     go_wp2_with fail
     refine wp_region_held_drew (S := fun w' => (∀ j, w'.cell? ⟨W3.heap.size, j, none⟩ = #[.int .i64 m.id, .slice ao_v m.st.l.length cap_v, .int .i64 m.st.h.n, .string m.st.h.r, .slice ao_u L_u cap_u, .int .i64 m.st.s, .int .i64 m.b.n, .string m.b.r][j]?) ∧ (∀ j, w'.cell? ⟨g_w, j, none⟩ = #[.int .i64 ki, .int .i64 5, .int .i64 m.id, .int .i64 hq.n, .string hq.r, .int .i64 nq, .slice ao_tx xq.length cap_tx][j]?)) (by kernel_rfl) ⟨c_x8, c_w8⟩ (fun hHeld => ?_)
     obtain ⟨W9, HW9, b9⟩ := Ke.v W8
     have HHW9 := HW9.out
     rw [HHW9] at hHeld ⊢
     clear HHW9
     have z9 := b9.size
     have B9 := Ke.b B8 b9
     have r_res9 := Ke.r r_res8 b9
     have r_rq9 := Ke.r r_rq8 b9
     have r_x9 := Ke.r r_x8 b9
     have r_w9 := Ke.r r_w8 b9
     have o_v9 := Ke.o o_v8 b9
     have o_u9 := Ke.o o_u8 b9
     have o_tx9 := Ke.o o_tx8 b9
     have c_x9 := Ke.c r_x9
     have c_w9 := Ke.c r_w9
     clear r_res8 r_rq8 r_x8 c_x8 r_w8 c_w8 o_v8 o_u8 o_tx8
     have f_t9 := Ke.h (Oht.later f_t8.out b9)
     clear f_t8
     refine Ke.q 0 ?_; try simp only [Act.put, pq]
     refine Ke.q 1 ?_; try simp only [Act.put, pq]
     refine Ke.q 2 ?_; try simp only [Act.put, pq]
     refine Ke.z 3 rfl (fun K hK => ?_)
     rw [if_pos (by rfl)]
     refine wp_partG 32 _ _ rfl (w.heap.size) 0 (mq m.id (.slice ao_v m.st.l.length cap_v) m.st.h (.slice ao_u L_u cap_u) m.st.s m.b) rfl rfl [.int .i64 0, .slice none 0 0, .int .i64 0, .string ⟨#[]⟩, .slice none 0 0, .int .i64 0, .int .i64 0, .string ⟨#[]⟩] 32 r_res9.out (Nat.le_of_ble_eq_true rfl) (sizeQ _ _ _ _ _ _) (oneQ _ _ _ _ rfl rfl) [.int .i64 m.id, .slice ao_v m.st.l.length cap_v, .int .i64 m.st.h.n, .string m.st.h.r, .slice ao_u L_u cap_u, .int .i64 m.st.s, .int .i64 m.b.n, .string m.b.r] rfl ?_
     intro W10 r_res10 g10
     refine hK.out _ _ ⟨(Ke.g hHeld.1 g10 (by show some (w.heap.size) ≠ some (W3.heap.size); intro h9; injection h9 with h9; omega)), (Ke.g hHeld.2 g10 (by show some (w.heap.size) ≠ some (g_w); intro h9; injection h9 with h9; omega))⟩ (fun hHeld => ?_)
     clear hK K
     try simp only [Act.put, pq]
     have f_t10 := Ke.h (Oht.gro f_t9.out g10 (fun k9 h9 => by injection h9 with h9; omega))
     have r_res10 : Hid (W10.heap[w.heap.size]? = some (.cells #[.int .i64 m.id, .slice ao_v m.st.l.length cap_v, .int .i64 m.st.h.n, .string m.st.h.r, .slice ao_u L_u cap_u, .int .i64 m.st.s, .int .i64 m.b.n, .string m.b.r] 32 (0, 0))) := r_res10
     have z10 := g10.size
     have B10 := Ke.i B9 g10
     have r_rq10 := Ke.s r_rq9 g10
     have r_x10 := Ke.s r_x9 g10
     have r_w10 := Ke.s r_w9 g10
     have o_v10 := Ke.t o_v9 r_res9 g10
     have o_u10 := Ke.t o_u9 r_res9 g10
     have o_tx10 := Ke.t o_tx9 r_res9 g10
     have c_x10 := Ke.c r_x10
     have c_w10 := Ke.c r_w10
     clear r_rq9 r_x9 c_x9 r_w9 c_w9 o_v9 o_u9 o_tx9
     clear r_res9
     clear f_t9
     clear g10
     refine Ke.q 4 ?_; try simp only [Act.put, pq]
     refine Ke.z 5 rfl (fun K hK => ?_)
     rw [if_pos (by rfl)]
     refine wp_partG 35 _ _ rfl (w.heap.size + 1) 0 (mc (⟨ki, 5, m.id, hq, nq, xq⟩ : Ms) (.slice ao_tx xq.length cap_tx)) rfl rfl [.int .i64 0, .int .i64 0, .int .i64 0, .int .i64 0, .string ⟨#[]⟩, .int .i64 0, .slice none 0 0] 35 r_rq10.out (Nat.le_of_ble_eq_true rfl) (sizeM _ _) (oneM _ rfl) [.int .i64 ki, .int .i64 5, .int .i64 m.id, .int .i64 hq.n, .string hq.r, .int .i64 nq, .slice ao_tx xq.length cap_tx] rfl ?_
     intro W11 r_rq11 g11
     refine hK.out _ _ ⟨(Ke.g hHeld.1 g11 (by show some (w.heap.size + 1) ≠ some (W3.heap.size); intro h9; injection h9 with h9; omega)), (Ke.g hHeld.2 g11 (by show some (w.heap.size + 1) ≠ some (g_w); intro h9; injection h9 with h9; omega))⟩ (fun hHeld => ?_)
     clear hK K
     try simp only [Act.put, pq]
     have f_t11 := Ke.h (Oht.gro f_t10.out g11 (fun k9 h9 => by injection h9 with h9; omega))
     have r_rq11 : Hid (W11.heap[w.heap.size + 1]? = some (.cells #[.int .i64 ki, .int .i64 5, .int .i64 m.id, .int .i64 hq.n, .string hq.r, .int .i64 nq, .slice ao_tx xq.length cap_tx] 35 (0, 0))) := r_rq11
     have z11 := g11.size
     have B11 := Ke.i B10 g11
     have r_res11 := Ke.s r_res10 g11
     have r_x11 := Ke.s r_x10 g11
     have r_w11 := Ke.s r_w10 g11
     have o_v11 := Ke.t o_v10 r_rq10 g11
     have o_u11 := Ke.t o_u10 r_rq10 g11
     have o_tx11 := Ke.t o_tx10 r_rq10 g11
     have c_x11 := Ke.c r_x11
     have c_w11 := Ke.c r_w11
     clear r_res10 r_x10 c_x10 r_w10 c_w10 o_v10 o_u10 o_tx10
     clear r_rq10
     clear f_t10
     clear g11
     refine wpAnyH_done (by kernel_rfl) ?_ _
     clear hHeld
     go_wp2
     exact bodyPost_ret (res_ctc rfl _ _ (w.heap.size) (w.heap.size + 1) 32 35 (mq m.id (.slice ao_v m.st.l.length cap_v) m.st.h (.slice ao_u L_u cap_u) m.st.s m.b) (mc (⟨ki, 5, m.id, hq, nq, xq⟩ : Ms) (.slice ao_tx xq.length cap_tx)) _ _ rfl r_res11.out Tryz.underlying32 rfl (sizeQ _ _ _ _ _ _) rfl r_rq11.out Tryz.underlying35 rfl (sizeM _ _)) rfl ⟨m, t, (⟨ki, 5, m.id, hq, nq, xq⟩ : Ms), .slice ao_v m.st.l.length cap_v, .slice ao_u L_u cap_u, .slice ao_t t.length cap_t, .slice ao_tx xq.length cap_tx, rfl, HA.out, ht1, ht9, HTZ.out, ⟨by simp only; omega, fun s h9 => Nat.le_trans (HXZ.out s h9) (by omega), hqz⟩, o_v11.out.sl, o_u11.out.sl, f_t11.out.1.sh, o_tx11.out.sl, B11.out⟩
    ·have dx : (0 : Int) < (xq.length : Int) := by omega
     obtain ⟨gt, rfl, hgt1, hgt2, curT, hcurT, _⟩ := Own.blockG o_tx8.out (by omega)
     clear hcurT
     go_wp2_with (refine wpl_elemG rfl 9 _ _ rfl (k := 0) o_tx8.out (by rw [ss_len]; omega) (.string ⟨#[98, 101, 110, 116]⟩) rfl rfl (by kernel_rfl) rfl ?_)
     intro W9 o_tx9 g9
     have o_tx9 : Own W9 (lo_tx) (hi_tx) 9 (.slice (some ⟨gt, 0, none⟩) xq.length cap_tx) (ss (xq.set 0 ⟨#[98, 101, 110, 116]⟩)) := by rw [show ss (xq.set 0 ⟨#[98, 101, 110, 116]⟩) = (ss xq).set 0 (.string ⟨#[98, 101, 110, 116]⟩) by simp [ss, List.map_set]]; exact o_tx9
     have f_t9 : Hid (Oht W9 W2.heap.size W3.heap.size (.slice ao_t t.length cap_t) t) := Oht.gro f_t8.out g9 (Own.far o_tx8.out (by omega))
     have o_tx9 : Hid (Own W9 (lo_tx) (hi_tx) 9 (.slice (some ⟨gt, 0, none⟩) xq.length cap_tx) (ss (xq.set 0 ⟨#[98, 101, 110, 116]⟩))) := o_tx9
     have z9 := g9.size
     have B9 : Hid (Below w.heap.size w W9) := belowGro B8.out g9 B8.out.size (Own.low o_tx8.out (by have := B8.out.size; omega))
     have r_res9 := Ke.n r_res8 o_tx8 g9
     have r_rq9 := Ke.n r_rq8 o_tx8 g9
     have r_x9 := Ke.n r_x8 o_tx8 g9
     have r_w9 := Ke.n r_w8 o_tx8 g9
     have o_v9 : Hid (Own W9 (W2.heap.size) (W3.heap.size) 9 (.slice ao_v m.st.l.length cap_v) (ss m.st.l)) := Own.gro o_v8.out g9 (Own.neFar o_tx8.out o_v8.out (by omega))
     have o_u9 : Hid (Own W9 (W2.heap.size) (W3.heap.size) 5 (.slice ao_u L_u cap_u) (bs m.st.b)) := Own.gro o_u8.out g9 (Own.neOwn o_tx8.out o_u8.out (by decide))
     have c_x9 := Ke.c r_x9
     have c_w9 := Ke.c r_w9
     clear r_res8 r_rq8 r_x8 c_x8 r_w8 c_w8 o_v8 o_u8 o_tx8
     clear f_t8
     clear g9
     go_wp2_with fail
     refine wp_region_held_drew (S := fun w' => (∀ j, w'.cell? ⟨W3.heap.size, j, none⟩ = #[.int .i64 m.id, .slice ao_v m.st.l.length cap_v, .int .i64 m.st.h.n, .string m.st.h.r, .slice ao_u L_u cap_u, .int .i64 m.st.s, .int .i64 m.b.n, .string m.b.r][j]?) ∧ (∀ j, w'.cell? ⟨g_w, j, none⟩ = #[.int .i64 ki, .int .i64 5, .int .i64 m.id, .int .i64 hq.n, .string hq.r, .int .i64 nq, .slice (some ⟨gt, 0, none⟩) xq.length cap_tx][j]?)) (by kernel_rfl) ⟨c_x9, c_w9⟩ (fun hHeld => ?_)
     obtain ⟨W10, HW10, b10⟩ := Ke.v W9
     have HHW10 := HW10.out
     rw [HHW10] at hHeld ⊢
     clear HHW10
     have z10 := b10.size
     have B10 := Ke.b B9 b10
     have r_res10 := Ke.r r_res9 b10
     have r_rq10 := Ke.r r_rq9 b10
     have r_x10 := Ke.r r_x9 b10
     have r_w10 := Ke.r r_w9 b10
     have o_v10 := Ke.o o_v9 b10
     have o_u10 := Ke.o o_u9 b10
     have o_tx10 := Ke.o o_tx9 b10
     have c_x10 := Ke.c r_x10
     have c_w10 := Ke.c r_w10
     clear r_res9 r_rq9 r_x9 c_x9 r_w9 c_w9 o_v9 o_u9 o_tx9
     have f_t10 := Ke.h (Oht.later f_t9.out b10)
     clear f_t9
     refine Ke.q 0 ?_; try simp only [Act.put, pq]
     refine Ke.q 1 ?_; try simp only [Act.put, pq]
     refine Ke.q 2 ?_; try simp only [Act.put, pq]
     refine Ke.z 3 rfl (fun K hK => ?_)
     rw [if_pos (by rfl)]
     refine wp_partG 32 _ _ rfl (w.heap.size) 0 (mq m.id (.slice ao_v m.st.l.length cap_v) m.st.h (.slice ao_u L_u cap_u) m.st.s m.b) rfl rfl [.int .i64 0, .slice none 0 0, .int .i64 0, .string ⟨#[]⟩, .slice none 0 0, .int .i64 0, .int .i64 0, .string ⟨#[]⟩] 32 r_res10.out (Nat.le_of_ble_eq_true rfl) (sizeQ _ _ _ _ _ _) (oneQ _ _ _ _ rfl rfl) [.int .i64 m.id, .slice ao_v m.st.l.length cap_v, .int .i64 m.st.h.n, .string m.st.h.r, .slice ao_u L_u cap_u, .int .i64 m.st.s, .int .i64 m.b.n, .string m.b.r] rfl ?_
     intro W11 r_res11 g11
     refine hK.out _ _ ⟨(Ke.g hHeld.1 g11 (by show some (w.heap.size) ≠ some (W3.heap.size); intro h9; injection h9 with h9; omega)), (Ke.g hHeld.2 g11 (by show some (w.heap.size) ≠ some (g_w); intro h9; injection h9 with h9; omega))⟩ (fun hHeld => ?_)
     clear hK K
     try simp only [Act.put, pq]
     have f_t11 := Ke.h (Oht.gro f_t10.out g11 (fun k9 h9 => by injection h9 with h9; omega))
     have r_res11 : Hid (W11.heap[w.heap.size]? = some (.cells #[.int .i64 m.id, .slice ao_v m.st.l.length cap_v, .int .i64 m.st.h.n, .string m.st.h.r, .slice ao_u L_u cap_u, .int .i64 m.st.s, .int .i64 m.b.n, .string m.b.r] 32 (0, 0))) := r_res11
     have z11 := g11.size
     have B11 := Ke.i B10 g11
     have r_rq11 := Ke.s r_rq10 g11
     have r_x11 := Ke.s r_x10 g11
     have r_w11 := Ke.s r_w10 g11
     have o_v11 := Ke.t o_v10 r_res10 g11
     have o_u11 := Ke.t o_u10 r_res10 g11
     have o_tx11 := Ke.t o_tx10 r_res10 g11
     have c_x11 := Ke.c r_x11
     have c_w11 := Ke.c r_w11
     clear r_rq10 r_x10 c_x10 r_w10 c_w10 o_v10 o_u10 o_tx10
     clear r_res10
     clear f_t10
     clear g11
     refine Ke.q 4 ?_; try simp only [Act.put, pq]
     refine Ke.z 5 rfl (fun K hK => ?_)
     rw [if_pos (by rfl)]
     refine wp_partG 35 _ _ rfl (w.heap.size + 1) 0 (mc (⟨ki, 5, m.id, hq, nq, xq.set 0 ⟨#[98, 101, 110, 116]⟩⟩ : Ms) (.slice (some ⟨gt, 0, none⟩) xq.length cap_tx)) rfl rfl [.int .i64 0, .int .i64 0, .int .i64 0, .int .i64 0, .string ⟨#[]⟩, .int .i64 0, .slice none 0 0] 35 r_rq11.out (Nat.le_of_ble_eq_true rfl) (sizeM _ _) (oneM _ rfl) [.int .i64 ki, .int .i64 5, .int .i64 m.id, .int .i64 hq.n, .string hq.r, .int .i64 nq, .slice (some ⟨gt, 0, none⟩) xq.length cap_tx] rfl ?_
     intro W12 r_rq12 g12
     refine hK.out _ _ ⟨(Ke.g hHeld.1 g12 (by show some (w.heap.size + 1) ≠ some (W3.heap.size); intro h9; injection h9 with h9; omega)), (Ke.g hHeld.2 g12 (by show some (w.heap.size + 1) ≠ some (g_w); intro h9; injection h9 with h9; omega))⟩ (fun hHeld => ?_)
     clear hK K
     try simp only [Act.put, pq]
     have f_t12 := Ke.h (Oht.gro f_t11.out g12 (fun k9 h9 => by injection h9 with h9; omega))
     have r_rq12 : Hid (W12.heap[w.heap.size + 1]? = some (.cells #[.int .i64 ki, .int .i64 5, .int .i64 m.id, .int .i64 hq.n, .string hq.r, .int .i64 nq, .slice (some ⟨gt, 0, none⟩) xq.length cap_tx] 35 (0, 0))) := r_rq12
     have z12 := g12.size
     have B12 := Ke.i B11 g12
     have r_res12 := Ke.s r_res11 g12
     have o_v12 := Ke.t o_v11 r_rq11 g12
     have o_u12 := Ke.t o_u11 r_rq11 g12
     have o_tx12 := Ke.t o_tx11 r_rq11 g12
     clear r_res11 r_x11 c_x11 r_w11 c_w11 o_v11 o_u11 o_tx11
     clear r_rq11
     clear f_t11
     clear g12
     refine wpAnyH_done (by kernel_rfl) ?_ _
     clear hHeld
     go_wp2
     exact bodyPost_ret (res_ctc rfl _ _ (w.heap.size) (w.heap.size + 1) 32 35 (mq m.id (.slice ao_v m.st.l.length cap_v) m.st.h (.slice ao_u L_u cap_u) m.st.s m.b) (mc (⟨ki, 5, m.id, hq, nq, xq.set 0 ⟨#[98, 101, 110, 116]⟩⟩ : Ms) (.slice (some ⟨gt, 0, none⟩) xq.length cap_tx)) _ _ rfl r_res12.out Tryz.underlying32 rfl (sizeQ _ _ _ _ _ _) rfl r_rq12.out Tryz.underlying35 rfl (sizeM _ _)) rfl ⟨m, t, (⟨ki, 5, m.id, hq, nq, xq.set 0 ⟨#[98, 101, 110, 116]⟩⟩ : Ms), .slice ao_v m.st.l.length cap_v, .slice ao_u L_u cap_u, .slice ao_t t.length cap_t, .slice (some ⟨gt, 0, none⟩) xq.length cap_tx, rfl, HA.out, ht1, ht9, HTZ.out, ⟨by simp only [List.length_set]; omega, fun s h9 => by rcases List.mem_or_eq_of_mem_set h9 with h8 | h8; exact Nat.le_trans (HXZ.out s h8) (by omega); rw [h8]; exact Nat.le_refl 4, hqz⟩, o_v12.out.sl, o_u12.out.sl, f_t12.out.1.sh, o_tx12.out.sl, B12.out⟩
   ·have y2b : (y == 2) = false := by rw [beq_eq_false_iff_ne]; exact y2
    clear cu8 bw8
    go_wp2_with fail
    refine wp_region_held_drew (S := fun w' => (∀ j, w'.cell? ⟨W3.heap.size, j, none⟩ = #[.int .i64 m.id, .slice ao_v m.st.l.length cap_v, .int .i64 m.st.h.n, .string m.st.h.r, .slice ao_u L_u cap_u, .int .i64 m.st.s, .int .i64 m.b.n, .string m.b.r][j]?) ∧ (∀ j, w'.cell? ⟨g_w, j, none⟩ = #[.int .i64 ki, .int .i64 5, .int .i64 m.id, .int .i64 hq.n, .string hq.r, .int .i64 nq, .slice ao_tx xq.length cap_tx][j]?)) (by kernel_rfl) ⟨c_x8, c_w8⟩ (fun hHeld => ?_)
    obtain ⟨W9, HW9, b9⟩ := Ke.v W8
    have HHW9 := HW9.out
    rw [HHW9] at hHeld ⊢
    clear HHW9
    have z9 := b9.size
    have B9 := Ke.b B8 b9
    have r_res9 := Ke.r r_res8 b9
    have r_rq9 := Ke.r r_rq8 b9
    have r_x9 := Ke.r r_x8 b9
    have r_w9 := Ke.r r_w8 b9
    have o_v9 := Ke.o o_v8 b9
    have o_u9 := Ke.o o_u8 b9
    have o_tx9 := Ke.o o_tx8 b9
    have c_x9 := Ke.c r_x9
    have c_w9 := Ke.c r_w9
    clear r_res8 r_rq8 r_x8 c_x8 r_w8 c_w8 o_v8 o_u8 o_tx8
    have f_t9 := Ke.h (Oht.later f_t8.out b9)
    clear f_t8
    refine Ke.q 0 ?_; try simp only [Act.put, pq]
    refine Ke.q 1 ?_; try simp only [Act.put, pq]
    refine Ke.q 2 ?_; try simp only [Act.put, pq]
    refine Ke.z 3 rfl (fun K hK => ?_)
    rw [if_pos (by rfl)]
    refine wp_partG 32 _ _ rfl (w.heap.size) 0 (mq m.id (.slice ao_v m.st.l.length cap_v) m.st.h (.slice ao_u L_u cap_u) m.st.s m.b) rfl rfl [.int .i64 0, .slice none 0 0, .int .i64 0, .string ⟨#[]⟩, .slice none 0 0, .int .i64 0, .int .i64 0, .string ⟨#[]⟩] 32 r_res9.out (Nat.le_of_ble_eq_true rfl) (sizeQ _ _ _ _ _ _) (oneQ _ _ _ _ rfl rfl) [.int .i64 m.id, .slice ao_v m.st.l.length cap_v, .int .i64 m.st.h.n, .string m.st.h.r, .slice ao_u L_u cap_u, .int .i64 m.st.s, .int .i64 m.b.n, .string m.b.r] rfl ?_
    intro W10 r_res10 g10
    refine hK.out _ _ ⟨(Ke.g hHeld.1 g10 (by show some (w.heap.size) ≠ some (W3.heap.size); intro h9; injection h9 with h9; omega)), (Ke.g hHeld.2 g10 (by show some (w.heap.size) ≠ some (g_w); intro h9; injection h9 with h9; omega))⟩ (fun hHeld => ?_)
    clear hK K
    try simp only [Act.put, pq]
    have f_t10 := Ke.h (Oht.gro f_t9.out g10 (fun k9 h9 => by injection h9 with h9; omega))
    have r_res10 : Hid (W10.heap[w.heap.size]? = some (.cells #[.int .i64 m.id, .slice ao_v m.st.l.length cap_v, .int .i64 m.st.h.n, .string m.st.h.r, .slice ao_u L_u cap_u, .int .i64 m.st.s, .int .i64 m.b.n, .string m.b.r] 32 (0, 0))) := r_res10
    have z10 := g10.size
    have B10 := Ke.i B9 g10
    have r_rq10 := Ke.s r_rq9 g10
    have r_x10 := Ke.s r_x9 g10
    have r_w10 := Ke.s r_w9 g10
    have o_v10 := Ke.t o_v9 r_res9 g10
    have o_u10 := Ke.t o_u9 r_res9 g10
    have o_tx10 := Ke.t o_tx9 r_res9 g10
    have c_x10 := Ke.c r_x10
    have c_w10 := Ke.c r_w10
    clear r_rq9 r_x9 c_x9 r_w9 c_w9 o_v9 o_u9 o_tx9
    clear r_res9
    clear f_t9
    clear g10
    refine Ke.q 4 ?_; try simp only [Act.put, pq]
    refine Ke.z 5 rfl (fun K hK => ?_)
    rw [if_pos (by rfl)]
    refine wp_partG 35 _ _ rfl (w.heap.size + 1) 0 (mc (⟨ki, 5, m.id, hq, nq, xq⟩ : Ms) (.slice ao_tx xq.length cap_tx)) rfl rfl [.int .i64 0, .int .i64 0, .int .i64 0, .int .i64 0, .string ⟨#[]⟩, .int .i64 0, .slice none 0 0] 35 r_rq10.out (Nat.le_of_ble_eq_true rfl) (sizeM _ _) (oneM _ rfl) [.int .i64 ki, .int .i64 5, .int .i64 m.id, .int .i64 hq.n, .string hq.r, .int .i64 nq, .slice ao_tx xq.length cap_tx] rfl ?_
    intro W11 r_rq11 g11
    refine hK.out _ _ ⟨(Ke.g hHeld.1 g11 (by show some (w.heap.size + 1) ≠ some (W3.heap.size); intro h9; injection h9 with h9; omega)), (Ke.g hHeld.2 g11 (by show some (w.heap.size + 1) ≠ some (g_w); intro h9; injection h9 with h9; omega))⟩ (fun hHeld => ?_)
    clear hK K
    try simp only [Act.put, pq]
    have f_t11 := Ke.h (Oht.gro f_t10.out g11 (fun k9 h9 => by injection h9 with h9; omega))
    have r_rq11 : Hid (W11.heap[w.heap.size + 1]? = some (.cells #[.int .i64 ki, .int .i64 5, .int .i64 m.id, .int .i64 hq.n, .string hq.r, .int .i64 nq, .slice ao_tx xq.length cap_tx] 35 (0, 0))) := r_rq11
    have z11 := g11.size
    have B11 := Ke.i B10 g11
    have r_res11 := Ke.s r_res10 g11
    have r_x11 := Ke.s r_x10 g11
    have r_w11 := Ke.s r_w10 g11
    have o_v11 := Ke.t o_v10 r_rq10 g11
    have o_u11 := Ke.t o_u10 r_rq10 g11
    have o_tx11 := Ke.t o_tx10 r_rq10 g11
    have c_x11 := Ke.c r_x11
    have c_w11 := Ke.c r_w11
    clear r_res10 r_x10 c_x10 r_w10 c_w10 o_v10 o_u10 o_tx10
    clear r_rq10
    clear f_t10
    clear g11
    refine wpAnyH_done (by kernel_rfl) ?_ _
    clear hHeld
    go_wp2
    exact bodyPost_ret (res_ctc rfl _ _ (w.heap.size) (w.heap.size + 1) 32 35 (mq m.id (.slice ao_v m.st.l.length cap_v) m.st.h (.slice ao_u L_u cap_u) m.st.s m.b) (mc (⟨ki, 5, m.id, hq, nq, xq⟩ : Ms) (.slice ao_tx xq.length cap_tx)) _ _ rfl r_res11.out Tryz.underlying32 rfl (sizeQ _ _ _ _ _ _) rfl r_rq11.out Tryz.underlying35 rfl (sizeM _ _)) rfl ⟨m, t, (⟨ki, 5, m.id, hq, nq, xq⟩ : Ms), .slice ao_v m.st.l.length cap_v, .slice ao_u L_u cap_u, .slice ao_t t.length cap_t, .slice ao_tx xq.length cap_tx, rfl, HA.out, ht1, ht9, HTZ.out, ⟨by simp only; omega, fun s h9 => Nat.le_trans (HXZ.out s h9) (by omega), hqz⟩, o_v11.out.sl, o_u11.out.sl, f_t11.out.1.sh, o_tx11.out.sl, B11.out⟩
end Go.Proofs.YtchonoonclllbaaGreatDoor.Mi
