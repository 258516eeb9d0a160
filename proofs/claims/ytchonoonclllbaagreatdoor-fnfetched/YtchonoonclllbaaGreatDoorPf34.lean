/- Texts in one: MiL. -/
import Derived.Test.YtchonoonclllbaaGreatDoorPf17
import Derived.Test.YtchonoonclllbaaGreatDoorPf33
import Derived.Deep.DeepCutAuto
namespace Go.Proofs.YtchonoonclllbaaGreatDoor.Mi
open Go.RowKit Go.Proofs.YtchonoonclllbaaGreatDoor.Mem Go.Proofs.YtchonoonclllbaaGreatDoor.Laws Go.Proofs.YtchonoonclllbaaGreatDoor.Bytes Go.Proofs.YtchonoonclllbaaGreatDoor.Sha Go.Proofs.YtchonoonclllbaaGreatDoor.Tr Go.Proofs.YtchonoonclllbaaGreatDoor.He Go.Proofs.YtchonoonclllbaaGreatDoor.Lg Go.Proofs.YtchonoonclllbaaGreatDoor.Sr Go.Proofs.YtchonoonclllbaaGreatDoor.Mg
set_option linter.unusedVariables false
set_option linter.unusedSimpArgs false
theorem nil9M (w : World) (lo hi : Nat) : Own w lo hi 9 (.slice none 0 0) (ss []) := ⟨⟨rfl, Or.inl ⟨rfl, rfl⟩⟩, fun g hg => by simp [Value.ownBlock] at hg⟩
theorem tot_drop14 : ∀ (l : List ByteArray) (n : Nat), Puts.tot (l.drop n) ≤ Puts.tot l := by
 intro l
 induction l with
 | nil => intro n; simp
 | cons a r ih =>
  intro n
  cases n with
  | zero => simp
  | succ n => have := ih n; simp only [List.drop_succ_cons, Puts.tot]; omega
theorem Om.get1 {w : World} {lo hi L cap : Nat} {ao : Option Addr} {q : Ms} (h : Om w lo hi (.slice ao L cap) [q]) : ∃ (g : Nat) (u : Value), ao = some ⟨g, 0, none⟩ ∧ L = 1 ∧ cap = 1 ∧ w.heap[g]? = some (.cells (mc q u) 35 (0, 0)) ∧ Own w lo hi 9 u (ss q.x) := by
 rcases h with ⟨h9, _⟩ | ⟨m, g, u, h9, hv, _, _, _, hr, ho⟩
 ·
  cases h9
 ·
  obtain rfl : q = m := by injection h9
  simp only [Value.slice.injEq] at hv
  exact ⟨g, u, hv.1, hv.2.1, hv.2.2, hr, ho⟩
set_option maxRecDepth 1000000 in
set_option maxHeartbeats 16000000 in
theorem fetched (w : World) (v0 : Value) (xs0 : List Int) (h0 : Sl w v0 (bs xs0)) (y0 : Byt xs0) (m0 : xs0.length ≤ maxLen) (hG : Glob w) (hN : NoC w) {a0 a1 a2 a3 : Addr} (hF : Is.Four w a0 a1 a2 a3) :
  Calls Tryz.prog 4 #[v0] w fun e w' => e = .returned (.bool true) ∧ Below w.heap.size w w' := by
 have hs := h0
 have hby := y0
 obtain ⟨ao0, cap0, rfl, -, -, -⟩ := h0
 rw [Mem.bs_len] at hs ⊢
 clear m0 y0
 by_cases hbig : 1048576 < xs0.length
 ·
  have qb := Draw.big_yes w ao0 xs0.length cap0 hbig
  clear hG hN hF
  go_enter Tryz.func4, Tryz.ntmps4
  go_wp2_with fail
  refine qb.mono ?_
  rintro e w1 ⟨rfl, rfl⟩
  go_wp2
  go_ret
  exact ⟨rfl, Below.refl _ _⟩
 have qb := Draw.big_no w ao0 xs0.length cap0 hbig
 have qd : ∀ W, Below w.heap.size w W → _ := fun W hW => drawMirror_any W _ xs0 (hs.later hW) hby (by omega)
 have HG : Hid (Glob w) := hG
 have HNC : Hid (NoC w) := hN
 have HF : Hid (Is.Four w a0 a1 a2 a3) := hF
 clear hF
 clear hbig hs hby hG hN
 have B0 : Hid (Below w.heap.size w w) := Below.refl _ _
 go_enter Tryz.func4, Tryz.ntmps4
 go_wp2_with fail
 refine qb.mono ?_
 rintro e W_ ⟨rfl, hW_⟩
 subst hW_
 clear qb
 go_wp2_with fail
 refine (qd w B0.out).mono ?_
 rintro e W1 ⟨all, t, m, v_v, v_u, v_t, v_a, rfl, hD, ht9, htz, s_v, s_u, s_t, s_a, b1⟩
 obtain ⟨ao_v, cap_v, rfl, _⟩ := s_v.form
 obtain ⟨ao_u, cap_u, rfl, _⟩ := s_u.form
 obtain ⟨ao_t, cap_t, rfl, _⟩ := Sh.form s_t
 obtain ⟨ao_a, cap_a, rfl, _⟩ := s_a.form
 simp only [ss_len, bs_len] at *
 have z1 := b1.size
 have B1 := Ke.b B0 b1
 have f_v1 : Hid (Sl W1 (.slice ao_v m.st.l.length cap_v) (ss m.st.l)) := s_v
 have f_u1 : Hid (Sl W1 (.slice ao_u m.st.b.length cap_u) (bs m.st.b)) := s_u
 have f_t1 : Hid (Sh W1 (.slice ao_t t.length cap_t) t) := s_t
 clear s_v s_u s_t qd
 have f_a1 : Hid (Sl W1 (.slice ao_a all.length cap_a) (ss all)) := s_a
 clear s_a
 have hA := hD.any
 obtain ⟨full, hC, f1, f2, f3, f4, f5, f6, f7, f8, f9⟩ := fetched14 hD
 have ha1 := hD.a1
 have ha9 := hD.a9
 have HAZ : Hid (∀ s ∈ all, s.size ≤ 10000000000) := fun s h9 => Nat.le_trans (hD.az s h9) (by omega)
 have HAZ2 : Hid (Puts.tot all ≤ 100000000000) := Nat.le_trans (Sr.tot_le1000 all (by omega) (fun s h9 => Nat.le_trans (hD.az s h9) (by omega))) (by omega)
 have hmo := hD.ok.1
 have hln := hD.st.len
 clear hD htz
 have HA : Hid (A14 m) := hA
 have HBY : Hid (Byt m.st.b) := hA.st.byt
 have HZ : Hid (∀ s ∈ m.st.l, s.size ≤ 10000000000) := fun s h9 => Nat.le_trans (hA.st.sz s h9) (by omega)
 have hll := hA.st.len
 have hbl := hA.st.bl
 have hhr := hA.st.hd
 have hgr := hA.b
 have hs1 := hA.st.lo
 have hs2 := hA.st.hi
 clear hA
 obtain ⟨fl, fh, fb, fs⟩ := full
 simp only at f1 f2 f3 f4 f5 f6 f7 f8 f9 hC
 have f1 := f1.symm
 subst f1 f2 f5
 have hMz := headOf_size all
 have hE0 := headOf_size []
 obtain ⟨M, hM⟩ : ∃ M, headOf all = M := ⟨_, rfl⟩
 have hC : commitP (⟨[], headOf [], [], 0⟩ : Sto) t (headOf all) all = _ := hC
 obtain ⟨E0, hE⟩ : ∃ E, headOf [] = E := ⟨_, rfl⟩
 have q0 : ∀ W, Below w.heap.size w W → _ := fun W hB => storenew_impl W (HG.out.later hB)
 have q1 : ∀ W v1, Below w.heap.size w W → Sl W v1 (ss all) → _ := fun W v1 hB h1 => headOf_impl W v1 all (HG.out.later hB) h1 (by omega) HAZ.out
 simp only [hE] at q0 hC hE0
 simp only [hM] at q1 hC f6 f7 f8 f9 hMz
 clear hM hE
 have HFB : Hid (Byt fb) := f3
 have q2 : ∀ W v1 v2 v3 v4, Below w.heap.size w W → Sl W v1 (ss []) → Sl W v2 (bs []) → Sh W v3 t → Sl W v4 (ss all) → _ := fun W v1 v2 v3 v4 hB h1 h2 h3 h4 => commit_impl W v1 v2 v3 v4 (⟨[], E0, [], 0⟩ : Sto) t M all (HG.out.later hB) (NoC.later HNC.out hB) (HF.out.later hB) h1 h2 (fun x hx => by cases hx) h3 h4 (by simp) (by simp) (by omega) (by omega) (fun s hs => by cases hs) HAZ.out HAZ2.out (by omega) (by simp only; omega)
 simp only [hC] at q2
 clear hC
 have q3 : ∀ W v1 v2 v3, Below w.heap.size w W → Sl W v1 (ss (⟨9, ⟨all, M, fb, 0⟩, M⟩ : Mr).st.l) → Sl W v2 (bs (⟨9, ⟨all, M, fb, 0⟩, M⟩ : Mr).st.b) → Sh W v3 t → _ := fun W v1 v2 v3 hB h1 h2 h3 => mirrorok_impl W v1 v2 v3 (⟨9, ⟨all, M, fb, 0⟩, M⟩ : Mr) t (HG.out.later hB) (NoC.later HNC.out hB) (by (try simp only); omega) h1 h2 HFB.out h3 (by (try simp only); omega) (by (try simp only); omega) (by omega) HAZ.out
 simp only [f6] at q3
 have q4 : ∀ W v1 v2 v3, Below w.heap.size w W → Sl W v1 (ss m.st.l) → Sl W v2 (bs m.st.b) → Sh W v3 t → _ := fun W v1 v2 v3 hB h1 h2 h3 => mirrorok_impl W v1 v2 v3 m t (HG.out.later hB) (NoC.later HNC.out hB) (by (try simp only); omega) h1 h2 HBY.out h3 (by (try simp only); omega) (by (try simp only); omega) (by omega) HZ.out
 simp only [hmo] at q4
 have q5 : ∀ W v1 v2 v3, Below w.heap.size w W → Sl W v1 (ss all) → Sl W v2 (bs fb) → Sh W v3 t → _ := fun W v1 v2 v3 hB h1 h2 h3 => gossip_impl W v1 v2 v3 (⟨9, ⟨all, M, fb, 0⟩, M⟩ : Mr) t m.id (HG.out.later hB) (NoC.later HNC.out hB) (by (try simp only); omega) h1 h2 HFB.out h3 (by (try simp only); omega) (by (try simp only); omega) (by omega) HAZ.out
 simp only [f7] at q5
 clear f7
 obtain ⟨Xm, S, hX⟩ : ∃ X S, hear m t (⟨1, 9, m.id, M, 0, []⟩ : Ms) = (X, S) := ⟨_, _, rfl⟩
 have q6 : ∀ W v1 v2 v3 v4, Below w.heap.size w W → Sl W v1 (ss m.st.l) → Sl W v2 (bs m.st.b) → Sh W v3 t → Sl W v4 (ss (⟨1, 9, m.id, M, 0, []⟩ : Ms).x) → _ := fun W v1 v2 v3 v4 hB h1 h2 h3 h4 => hear_impl W v1 v2 v3 v4 m t (⟨1, 9, m.id, M, 0, []⟩ : Ms) (HG.out.later hB) (NoC.later HNC.out hB) (HF.out.later hB) (by (try simp only); omega) (by (try simp only); omega) h1 h2 HBY.out h3 (by (try simp only); omega) (by (try simp only); omega) (by omega) HZ.out h4 (by simp) (fun s hs => by cases hs) (by simp [Puts.tot]) (by (try simp only); omega)
 simp only [hX] at q6 f8 f9
 clear hX
 have F8 : Hid (m.st.l.length = all.length → m.st.l = all ∧ S = []) := f8
 have F9 := Ke.h f9
 clear f8 f9 f3 hmo f6
 obtain ⟨W2, HW2, b2, y2, hS2, r_m2⟩ := Ke.l1 W1 #[.int .i64 m.id, .slice ao_v m.st.l.length cap_v, .int .i64 m.st.h.n, .string m.st.h.r, .slice ao_u m.st.b.length cap_u, .int .i64 m.st.s, .int .i64 m.b.n, .string m.b.r] 32
 have z2 := b2.size
 have B2 := Ke.b B1 b2
 have c_m2 := Ke.c r_m2
 have f_v2 := Ke.h (Sl.later f_v1.out b2)
 have f_u2 := Ke.h (Sl.later f_u1.out b2)
 have f_t2 := Ke.h (Sh.later f_t1.out b2)
 have f_a2 := Ke.h (Sl.later f_a1.out b2)
 clear f_v1 f_u1 f_t1 f_a1
 go_wp2_with fail
 rw [HW2.out]
 refine (q0 W2 B2.out).mono ?_
 rintro e W3 ⟨v_n, v_np, rfl, o9, o5, b3⟩
 have s_n := o9.sl
 have s_np := o5.sl
 obtain ⟨ao_n, cap_n, rfl, _⟩ := s_n.form
 obtain ⟨ao_np, cap_np, rfl, _⟩ := s_np.form
 clear o9 o5
 have z3 := b3.size
 have B3 := Ke.b B2 b3
 have r_m3 := Ke.r r_m2 b3
 have c_m3 := Ke.c r_m3
 clear r_m2 c_m2
 have f_v3 := Ke.h (Sl.later f_v2.out b3)
 have f_u3 := Ke.h (Sl.later f_u2.out b3)
 have f_t3 := Ke.h (Sh.later f_t2.out b3)
 have f_a3 := Ke.h (Sl.later f_a2.out b3)
 clear f_v2 f_u2 f_t2 f_a2
 have f_n3 : Hid (Sl W3 (.slice ao_n (ss []).length cap_n) (ss [])) := s_n
 have f_np3 : Hid (Sl W3 (.slice ao_np (bs []).length cap_np) (bs [])) := s_np
 clear s_n s_np q0
 go_wp2_with fail
 refine (q1 W3 _ B3.out f_a3.out).mono ?_
 rintro e W4 ⟨rfl, b4⟩
 have z4 := b4.size
 have B4 := Ke.b B3 b4
 have r_m4 := Ke.r r_m3 b4
 have c_m4 := Ke.c r_m4
 clear r_m3 c_m3
 have f_v4 := Ke.h (Sl.later f_v3.out b4)
 have f_u4 := Ke.h (Sl.later f_u3.out b4)
 have f_t4 := Ke.h (Sh.later f_t3.out b4)
 have f_a4 := Ke.h (Sl.later f_a3.out b4)
 have f_n4 := Ke.h (Sl.later f_n3.out b4)
 have f_np4 := Ke.h (Sl.later f_np3.out b4)
 clear f_v3 f_u3 f_t3 f_a3 f_n3 f_np3
 go_wp2_with fail
 refine (q2 W4 _ _ _ _ B4.out f_n4.out f_np4.out f_t4.out f_a4.out).mono ?_
 rintro e W5 ⟨v_f, v_fp, rfl, o9, o5, b5⟩
 obtain ⟨ao_f, L_f, cap_f, rfl, _, _⟩ := Mem.Own.form o9
 obtain ⟨ao_fp, L_fp, cap_fp, rfl, _, _⟩ := Mem.Own.form o5
 obtain rfl : L_f = all.length := by obtain ⟨a9, L9, c9, he, h1, h2⟩ := Mem.Own.form o9; injection he with _ he2 _; rw [ss_len] at h1 h2; omega
 obtain rfl : L_fp = fb.length := by obtain ⟨a9, L9, c9, he, h1, h2⟩ := Mem.Own.form o5; injection he with _ he2 _; rw [bs_len] at h1 h2; omega
 have z5 := b5.size
 have B5 := Ke.b B4 b5
 have r_m5 := Ke.r r_m4 b5
 have c_m5 := Ke.c r_m5
 clear r_m4 c_m4
 have f_v5 := Ke.h (Sl.later f_v4.out b5)
 have f_u5 := Ke.h (Sl.later f_u4.out b5)
 have f_t5 := Ke.h (Sh.later f_t4.out b5)
 have f_a5 := Ke.h (Sl.later f_a4.out b5)
 have f_n5 := Ke.h (Sl.later f_n4.out b5)
 have f_np5 := Ke.h (Sl.later f_np4.out b5)
 clear f_v4 f_u4 f_t4 f_a4 f_n4 f_np4
 have f_f5 : Hid (Sl W5 (.slice ao_f all.length cap_f) (ss all)) := o9.sl
 have f_fp5 : Hid (Sl W5 (.slice ao_fp fb.length cap_fp) (bs fb)) := o5.sl
 clear o9 o5
 clear f_n5
 clear f_np5
 clear q2
 have a_m5 := Ke.a r_m5
 obtain ⟨W6, HW6, b6, y6, hS6, r_full6⟩ := Ke.l1 W5 #[.slice ao_f all.length cap_f, .int .i64 M.n, .string M.r, .slice ao_fp fb.length cap_fp, .int .i64 0] 30
 have z6 := b6.size
 have B6 := Ke.b B5 b6
 have r_m6 := Ke.r r_m5 b6
 have c_m6 := Ke.c r_m6
 have c_full6 := Ke.c r_full6
 clear r_m5 c_m5
 have f_v6 := Ke.h (Sl.later f_v5.out b6)
 have f_u6 := Ke.h (Sl.later f_u5.out b6)
 have f_t6 := Ke.h (Sh.later f_t5.out b6)
 have f_a6 := Ke.h (Sl.later f_a5.out b6)
 have f_f6 := Ke.h (Sl.later f_f5.out b6)
 have f_fp6 := Ke.h (Sl.later f_fp5.out b6)
 clear f_v5 f_u5 f_t5 f_a5 f_f5 f_fp5
 go_upto_region 5 with fail
 rw [HW6.out]
 clear a_m5
 go_cut [8, 12] (fun s8 s12 wx => ∃ g : Nat, s8 = (.pointer (some ⟨g, 0, none⟩)) ∧ W6.heap.size ≤ g ∧ g < wx.heap.size ∧ Below W6.heap.size W6 wx ∧ ∃ lo_d hi_d ao_d L_d cap_d, s12 = undef ∧ W6.heap.size ≤ lo_d ∧ lo_d ≤ hi_d ∧ hi_d ≤ wx.heap.size ∧ Own wx lo_d hi_d 9 (.slice ao_d L_d cap_d) (ss []) ∧ (g < lo_d ∨ hi_d ≤ g) ∧ wx.heap[g]? = some (.cells #[.int .i64 9, .slice ao_f all.length cap_f, .int .i64 M.n, .string M.r, .slice ao_fp fb.length cap_fp, .int .i64 0, .int .i64 M.n, .string M.r] 32 (0, 0)))
 case first =>
  have D6 : Hid (Below W6.heap.size W6 W6) := Below.refl _ _
  refine wp_region_held_drew (S := fun w' => (∀ j, w'.cell? ⟨W5.heap.size, j, none⟩ = #[.slice ao_f all.length cap_f, .int .i64 M.n, .string M.r, .slice ao_fp fb.length cap_fp, .int .i64 0][j]?)) (by kernel_rfl) c_full6 (fun hHeld => ?_)
  refine Ke.y 0 rfl (fun _ _ _ h => h) ?_
  try simp only [Act.put, pu1, pu2, pu3, pu4, pu5, pu6]
  refine Ke.y 1 rfl (fun _ _ _ h => h) ?_
  try simp only [Act.put, pu1, pu2, pu3, pu4, pu5, pu6]
  refine chain1 2 4 (fun aA xA aB wB => aB = aA.put (some 8) xA ∧ Below W6.heap.size W6 wB ∧ (∀ g : Nat, xA = (.pointer (some ⟨g, 0, none⟩)) → W6.heap.size ≤ g ∧ g < wB.heap.size ∧ wB.heap[g]? = some (.cells #[.int .i64 0, .slice none 0 0, .int .i64 0, .string ⟨#[]⟩, .slice none 0 0, .int .i64 0, .int .i64 0, .string ⟨#[]⟩] 32 (0, 0)))) (fun aA xA aB wB => ∃  (lo_d hi_d : Nat) (ao_d : Option Addr) (L_d cap_d : Nat), aB = (aA.put (some 35) (.agg #[.int .i64 M.n, .string M.r])).put (some 8) xA ∧ Below W6.heap.size W6 wB ∧ W6.heap.size ≤ lo_d ∧ lo_d ≤ hi_d ∧ hi_d ≤ wB.heap.size ∧ Own wB lo_d hi_d 9 (.slice ao_d L_d cap_d) (ss []) ∧ (∀ g : Nat, xA = (.pointer (some ⟨g, 0, none⟩)) → W6.heap.size ≤ g ∧ g < wB.heap.size ∧ wB.heap[g]? = some (.cells #[.int .i64 0, .slice none 0 0, .int .i64 0, .string ⟨#[]⟩, .slice none 0 0, .int .i64 0, .int .i64 0, .string ⟨#[]⟩] 32 (0, 0)) ∧ (g < lo_d ∨ hi_d ≤ g))) (by decide) (by kernel_rfl) (by kernel_rfl) ?hC0x5 ?hA0x5 ?tJx5 ?tKx5 ?h0x5 hHeld
  case hC0x5 =>
   rintro xA a1 wq ⟨rfl, hD, hx⟩ hHeld
   have hBw : Below w.heap.size w wq := B6.out.trans (hD.mono B6.out.size)
   refine wpOp_weak rfl (fun K hK => ?_)
   try simp only [Act.put, pu1, pu2, pu3, pu4, pu5, pu6]
   go_simp
   refine (q1 wq _ hBw (f_a6.out.later hD)).mono ?_
   rintro e w2 ⟨rfl, b2⟩
   obtain ⟨lo_d, hi_d, ao_d, L_d, cap_d, y1, y2, oo_d⟩ : ∃ (lo hi : Nat) (ao : Option Addr) (L cap : Nat), lo = wq.heap.size ∧ hi = wq.heap.size ∧ Own w2 lo hi 9 (.slice ao L cap) (ss []) := ⟨_, _, none, 0, 0, rfl, rfl, nil9M _ _ _⟩
   have hzq := b2.size
   have hzd := hD.size
   refine hK.out _ _ ⟨(Ke.k (W := wq) hHeld b2), lo_d, hi_d, ao_d, L_d, cap_d, rfl, hD.trans (b2.mono hD.size), by omega, by omega, by omega, oo_d, fun g hg => ?_⟩
   obtain ⟨g1, g2, g3⟩ := hx g hg
   exact ⟨g1, by omega, rowKeep g3 b2, by omega⟩
  case hA0x5 =>
   rintro a1 wq ⟨rfl, hD, hx⟩ hHeld
   refine wpOp_weak rfl (fun K hK => ?_)
   try simp only [Act.put, pu1, pu2, pu3, pu4, pu5, pu6]
   go_simp
   refine hK.out _ _ ⟨(Ke.k (W := wq) hHeld ((Below.refl _ _).alloc (Nat.le_refl _) _)), wq.heap.size, rfl, hD.alloc hD.size _, fun g hg => ?_⟩
   obtain rfl : wq.heap.size = g := by simpa using hg
   exact ⟨hD.size, by simp, heap_alloc_new wq _⟩
  case tJx5 =>
   rintro a1 W7 ⟨lo_d, hi_d, ao_d, L_d, cap_d, rfl, D7, d1_d, d2_d, d3_d, oo_d, hx⟩ hHeld
   have z7 : W6.heap.size ≤ W7.heap.size := D7.size
   have B7 := Ke.b B6 D7
   have D7 : Hid (Below W6.heap.size W6 W7) := D7
   have o_d7 : Hid (Own W7 lo_d hi_d 9 (.slice ao_d L_d cap_d) (ss [])) := oo_d
   clear oo_d
   clear hx
   try simp only [Act.put, pu1, pu2, pu3, pu4, pu5, pu6]
   refine Ke.y 3 rfl (fun _ _ _ h => h) ?_
   try simp only [Act.put, pu1, pu2, pu3, pu4, pu5, pu6]
   refine Ke.z 4 rfl (fun K hK => ?_)
   go_simp
   refine hK.out _ _ (Ke.k (W := W7) hHeld ((Below.refl _ _).alloc (Nat.le_refl _) _)) (fun hHeld => ?_)
   clear hK K
   try simp only [Act.put, pu1, pu2, pu3, pu4, pu5, pu6]
   obtain ⟨W8, HW8, b8, y8, r_o8⟩ : ∃ X, Hid ((W7.alloc (.cells #[.int .i64 0, .slice none 0 0, .int .i64 0, .string ⟨#[]⟩, .slice none 0 0, .int .i64 0, .int .i64 0, .string ⟨#[]⟩] 32)) = X) ∧ Below W7.heap.size W7 X ∧ W7.heap.size + 1 ≤ X.heap.size ∧ Hid (X.heap[W7.heap.size]? = some (.cells #[.int .i64 0, .slice none 0 0, .int .i64 0, .string ⟨#[]⟩, .slice none 0 0, .int .i64 0, .int .i64 0, .string ⟨#[]⟩] 32 (0, 0))) := ⟨_, rfl, ((Below.refl _ _).alloc (Nat.le_refl _) _), (by show _ ≤ (W7.heap.push _).size; simp), heap_alloc_new W7 _⟩
   have HHW8 := HW8.out
   rw [HHW8] at hHeld ⊢
   clear HHW8
   have z8 := b8.size
   have B8 := Ke.b B7 b8
   have o_d8 := Ke.o o_d7 b8
   have c_o8 := Ke.c r_o8
   clear o_d7
   have D8 := Ke.b D7 b8
   refine Ke.z 5 rfl (fun K hK => ?_)
   rw [if_pos (by rfl)]
   refine wp_store_row 32 _ _ rfl (W7.heap.size) (mq 9 (.slice ao_f all.length cap_f) M (.slice ao_fp fb.length cap_fp) 0 M) rfl rfl 32 _ r_o8.out (sizeQ _ _ _ _ _ _) rfl (oneQ _ _ _ _ rfl rfl) ?_
   refine hK.out _ _ (Ke.w (by show W5.heap.size ≠ W7.heap.size; omega) hHeld) (fun hHeld => ?_)
   clear hK K
   try simp only [Act.put, pu1, pu2, pu3, pu4, pu5, pu6]
   have D9a : Below W6.heap.size W6 (W8.setRow (W7.heap.size) (mq 9 (.slice ao_f all.length cap_f) M (.slice ao_fp fb.length cap_fp) 0 M)) := below_setRow D8.out (by omega) _
   obtain ⟨W9, HW9⟩ : ∃ X, Hid (W8.setRow (W7.heap.size) (mq 9 (.slice ao_f all.length cap_f) M (.slice ao_fp fb.length cap_fp) 0 M) = X) := ⟨_, rfl⟩
   have z9 : W8.heap.size ≤ W9.heap.size := by rw [← HW9.out]; simp
   have B9 : Hid (Below w.heap.size w W9) := by show Below _ _ _; rw [← HW9.out]; exact below_setRow B8.out (by have := B8.out.size; omega) _
   have o_d9 : Hid (Own W9 (lo_d) (hi_d) 9 (.slice ao_d L_d cap_d) (ss [])) := by show Own _ _ _ _ _ _; rw [← HW9.out]; exact Own.setRow o_d8.out _ (by omega)
   have r_o9 : Hid (W9.heap[W7.heap.size]? = some (.cells #[.int .i64 9, .slice ao_f all.length cap_f, .int .i64 M.n, .string M.r, .slice ao_fp fb.length cap_fp, .int .i64 0, .int .i64 M.n, .string M.r] 32 (0, 0))) := by show _ = _; rw [← HW9.out]; exact setRow_heap _ _ _ _ _ (0, 0) r_o8.out
   rw [HW9.out]
   clear r_o8 c_o8 o_d8
   have c_o9 := Ke.c r_o9
   rw [HW9.out] at hHeld
   have D9 : Hid (Below W6.heap.size W6 W9) := by show Below _ _ _; rw [← HW9.out]; exact D9a
   refine wpAnyH_done (by kernel_rfl) ?_ _
   clear hHeld
   go_wp2_with fail
   go_meet
   exact ⟨W7.heap.size, rfl, by omega, (Array.getElem?_eq_some_iff.1 r_o9.out).1, D9.out, lo_d, hi_d, ao_d, L_d, cap_d, rfl, by omega, by omega, by omega, o_d9.out, by omega, r_o9.out⟩
  case tKx5 =>
   rintro g_o a1 W7 ⟨lo_d, hi_d, ao_d, L_d, cap_d, rfl, D7, d1_d, d2_d, d3_d, oo_d, hx⟩ hHeld
   have z7 : W6.heap.size ≤ W7.heap.size := D7.size
   have B7 := Ke.b B6 D7
   have D7 : Hid (Below W6.heap.size W6 W7) := D7
   obtain ⟨hg1_o, hg2_o, hg3_o, hgf_d⟩ := hx g_o rfl
   have r_o7 : Hid (W7.heap[g_o]? = some (.cells #[.int .i64 0, .slice none 0 0, .int .i64 0, .string ⟨#[]⟩, .slice none 0 0, .int .i64 0, .int .i64 0, .string ⟨#[]⟩] 32 (0, 0))) := hg3_o
   clear hg3_o
   have o_d7 : Hid (Own W7 lo_d hi_d 9 (.slice ao_d L_d cap_d) (ss [])) := oo_d
   clear oo_d
   clear hx
   try simp only [Act.put, pu1, pu2, pu3, pu4, pu5, pu6]
   have c_o7 := Ke.c r_o7
   refine Ke.y 3 rfl (fun _ _ _ h => h) ?_
   try simp only [Act.put, pu1, pu2, pu3, pu4, pu5, pu6]
   refine Ke.z 5 rfl (fun K hK => ?_)
   rw [if_pos (by rfl)]
   refine wp_store_row 32 _ _ rfl (g_o) (mq 9 (.slice ao_f all.length cap_f) M (.slice ao_fp fb.length cap_fp) 0 M) rfl rfl 32 _ r_o7.out (sizeQ _ _ _ _ _ _) rfl (oneQ _ _ _ _ rfl rfl) ?_
   refine hK.out _ _ (Ke.w (by show W5.heap.size ≠ g_o; omega) hHeld) (fun hHeld => ?_)
   clear hK K
   try simp only [Act.put, pu1, pu2, pu3, pu4, pu5, pu6]
   have D8a : Below W6.heap.size W6 (W7.setRow (g_o) (mq 9 (.slice ao_f all.length cap_f) M (.slice ao_fp fb.length cap_fp) 0 M)) := below_setRow D7.out (by omega) _
   obtain ⟨W8, HW8⟩ : ∃ X, Hid (W7.setRow (g_o) (mq 9 (.slice ao_f all.length cap_f) M (.slice ao_fp fb.length cap_fp) 0 M) = X) := ⟨_, rfl⟩
   have z8 : W7.heap.size ≤ W8.heap.size := by rw [← HW8.out]; simp
   have B8 : Hid (Below w.heap.size w W8) := by show Below _ _ _; rw [← HW8.out]; exact below_setRow B7.out (by have := B7.out.size; omega) _
   have o_d8 : Hid (Own W8 (lo_d) (hi_d) 9 (.slice ao_d L_d cap_d) (ss [])) := by show Own _ _ _ _ _ _; rw [← HW8.out]; exact Own.setRow o_d7.out _ (by omega)
   have r_o8 : Hid (W8.heap[g_o]? = some (.cells #[.int .i64 9, .slice ao_f all.length cap_f, .int .i64 M.n, .string M.r, .slice ao_fp fb.length cap_fp, .int .i64 0, .int .i64 M.n, .string M.r] 32 (0, 0))) := by show _ = _; rw [← HW8.out]; exact setRow_heap _ _ _ _ _ (0, 0) r_o7.out
   rw [HW8.out]
   clear r_o7 c_o7 o_d7
   have c_o8 := Ke.c r_o8
   rw [HW8.out] at hHeld
   have D8 : Hid (Below W6.heap.size W6 W8) := by show Below _ _ _; rw [← HW8.out]; exact D8a
   refine wpAnyH_done (by kernel_rfl) ?_ _
   clear hHeld
   go_wp2_with fail
   go_meet
   exact ⟨g_o, rfl, by omega, (Array.getElem?_eq_some_iff.1 r_o8.out).1, D8.out, lo_d, hi_d, ao_d, L_d, cap_d, rfl, by omega, by omega, by omega, o_d8.out, by omega, r_o8.out⟩
  case h0x5 =>
   exact ⟨rfl, Below.drew (Below.refl _ _), fun g hg => by cases hg⟩
 case rest =>
 obtain ⟨g_o, rfl, hg_o, hg2_o, b7, lo_d, hi_d, ao_d, L_d, cap_d, rfl, d1_d, d2_d, d3_d, oo_d, hgf_d, r_o7⟩ := hcut
 revert hg2_o b7 d3_d oo_d r_o7
 generalize wc = W7
 intro hg2_o b7 d3_d oo_d r_o7
 have r_o7 : Hid (W7.heap[g_o]? = some (.cells #[.int .i64 9, .slice ao_f all.length cap_f, .int .i64 M.n, .string M.r, .slice ao_fp fb.length cap_fp, .int .i64 0, .int .i64 M.n, .string M.r] 32 (0, 0))) := r_o7
 have o_d7 : Hid (Own W7 lo_d hi_d 9 (.slice ao_d L_d cap_d) (ss [])) := oo_d
 clear oo_d
 have z7 := b7.size
 have B7 := Ke.b B6 b7
 have r_m7 := Ke.r r_m6 b7
 have r_full7 := Ke.r r_full6 b7
 have c_m7 := Ke.c r_m7
 have c_full7 := Ke.c r_full7
 have c_o7 := Ke.c r_o7
 clear r_m6 c_m6 r_full6 c_full6
 have f_v7 := Ke.h (Sl.later f_v6.out b7)
 have f_u7 := Ke.h (Sl.later f_u6.out b7)
 have f_t7 := Ke.h (Sh.later f_t6.out b7)
 have f_a7 := Ke.h (Sl.later f_a6.out b7)
 have f_f7 := Ke.h (Sl.later f_f6.out b7)
 have f_fp7 := Ke.h (Sl.later f_fp6.out b7)
 clear f_v6 f_u6 f_t6 f_a6 f_f6 f_fp6
 clear o_d7
 clear r_full7 c_full7
 go_wp2_with fail
 refine (q3 W7 _ _ _ B7.out f_f7.out f_fp7.out f_t7.out).mono ?_
 rintro e W8 ⟨rfl, b8⟩
 have z8 := b8.size
 have B8 := Ke.b B7 b8
 have r_m8 := Ke.r r_m7 b8
 have r_o8 := Ke.r r_o7 b8
 have c_m8 := Ke.c r_m8
 have c_o8 := Ke.c r_o8
 clear r_m7 c_m7 r_o7 c_o7
 have f_v8 := Ke.h (Sl.later f_v7.out b8)
 have f_u8 := Ke.h (Sl.later f_u7.out b8)
 have f_t8 := Ke.h (Sh.later f_t7.out b8)
 have f_a8 := Ke.h (Sl.later f_a7.out b8)
 have f_f8 := Ke.h (Sl.later f_f7.out b8)
 have f_fp8 := Ke.h (Sl.later f_fp7.out b8)
 clear f_v7 f_u7 f_t7 f_a7 f_f7 f_fp7
 go_wp2_with fail
 refine (q4 W8 _ _ _ B8.out f_v8.out f_u8.out f_t8.out).mono ?_
 rintro e W9 ⟨rfl, b9⟩
 have z9 := b9.size
 have B9 := Ke.b B8 b9
 have r_m9 := Ke.r r_m8 b9
 have r_o9 := Ke.r r_o8 b9
 have c_m9 := Ke.c r_m9
 have c_o9 := Ke.c r_o9
 clear r_m8 c_m8 r_o8 c_o8
 have f_v9 := Ke.h (Sl.later f_v8.out b9)
 have f_u9 := Ke.h (Sl.later f_u8.out b9)
 have f_t9 := Ke.h (Sh.later f_t8.out b9)
 have f_a9 := Ke.h (Sl.later f_a8.out b9)
 have f_f9 := Ke.h (Sl.later f_f8.out b9)
 have f_fp9 := Ke.h (Sl.later f_fp8.out b9)
 clear f_v8 f_u8 f_t8 f_a8 f_f8 f_fp8
 go_wp2_with fail
 refine (q5 W9 _ _ _ B9.out f_f9.out f_fp9.out f_t9.out).mono ?_
 rintro e W10 ⟨v_g, rfl, o_g10, b10⟩
 obtain ⟨ao_g, L_g, cap_g, rfl, hL_g, hM_g⟩ := Om.form o_g10
 have HL_g : Hid (L_g = [(⟨1, 9, m.id, M, 0, []⟩ : Ms)].length) := hL_g
 clear hL_g
 have z10 := b10.size
 have B10 := Ke.b B9 b10
 have r_m10 := Ke.r r_m9 b10
 have r_o10 := Ke.r r_o9 b10
 have c_m10 := Ke.c r_m10
 have c_o10 := Ke.c r_o10
 clear r_m9 c_m9 r_o9 c_o9
 have f_v10 := Ke.h (Sl.later f_v9.out b10)
 have f_u10 := Ke.h (Sl.later f_u9.out b10)
 have f_t10 := Ke.h (Sh.later f_t9.out b10)
 have f_a10 := Ke.h (Sl.later f_a9.out b10)
 have f_f10 := Ke.h (Sl.later f_f9.out b10)
 have f_fp10 := Ke.h (Sl.later f_fp9.out b10)
 clear f_v9 f_u9 f_t9 f_a9 f_f9 f_fp9
 have f_g10 : Hid (Omx W10 W9.heap.size W10.heap.size (.slice ao_g L_g cap_g) [(⟨1, 9, m.id, M, 0, []⟩ : Ms)]) := ⟨o_g10, Nat.le_refl _⟩
 clear o_g10
 clear q3 q4 q5 hM_g HL_g q1
 obtain ⟨gg, ug, rfl, rfl, rfl, hr_gg, ho_ug⟩ := Omx.get f_g10.out
 have r_gg10 : Hid (W10.heap[gg]? = some (.cells #[.int .i64 1, .int .i64 9, .int .i64 m.id, .int .i64 M.n, .string M.r, .int .i64 0, ug] 35 (0, 0))) := hr_gg
 have hgb_gg : gg < W10.heap.size := (Array.getElem?_eq_some_iff.1 hr_gg).1
 clear hr_gg
 have c_gg10 := Ke.c r_gg10
 have f_ug10 : Hid (Sl W10 ug (ss (⟨1, 9, m.id, M, 0, []⟩ : Ms).x)) := ho_ug.sl
 clear ho_ug
 clear f_g10
 go_upto_region 11 with fail
 go_cut [10, 11, 12] (fun s10 s11 s12 wx => ∃ g : Nat, s10 = (.pointer (some ⟨g, 0, none⟩)) ∧ W10.heap.size ≤ g ∧ g < wx.heap.size ∧ Below W10.heap.size W10 wx ∧ ∃ lo_xv hi_xv ao_xv L_xv cap_xv lo_xp hi_xp ao_xp L_xp cap_xp lo_xo hi_xo ao_xo L_xo cap_xo, s11 = .slice ao_xo L_xo cap_xo ∧ s12 = undef ∧ W10.heap.size ≤ lo_xv ∧ lo_xv ≤ hi_xv ∧ hi_xv ≤ wx.heap.size ∧ W10.heap.size ≤ lo_xp ∧ lo_xp ≤ hi_xp ∧ hi_xp ≤ wx.heap.size ∧ W10.heap.size ≤ lo_xo ∧ lo_xo ≤ hi_xo ∧ hi_xo ≤ wx.heap.size ∧ (hi_xv ≤ lo_xp ∨ hi_xp ≤ lo_xv) ∧ (hi_xv ≤ lo_xo ∨ hi_xo ≤ lo_xv) ∧ (hi_xp ≤ lo_xo ∨ hi_xo ≤ lo_xp) ∧ Own wx lo_xv hi_xv 9 (.slice ao_xv L_xv cap_xv) (ss Xm.st.l) ∧ Own wx lo_xp hi_xp 5 (.slice ao_xp L_xp cap_xp) (bs Xm.st.b) ∧ Om wx lo_xo hi_xo (.slice ao_xo L_xo cap_xo) (S) ∧ (g < lo_xv ∨ hi_xv ≤ g) ∧ (g < lo_xp ∨ hi_xp ≤ g) ∧ (g < lo_xo ∨ hi_xo ≤ g) ∧ wx.heap[g]? = some (.cells #[.int .i64 Xm.id, .slice ao_xv L_xv cap_xv, .int .i64 Xm.st.h.n, .string Xm.st.h.r, .slice ao_xp L_xp cap_xp, .int .i64 Xm.st.s, .int .i64 Xm.b.n, .string Xm.b.r] 32 (0, 0)))
 case first =>
  have D10 : Hid (Below W10.heap.size W10 W10) := Below.refl _ _
  refine wp_region_held_drew (S := fun w' => (∀ j, w'.cell? ⟨W1.heap.size, j, none⟩ = #[.int .i64 m.id, .slice ao_v m.st.l.length cap_v, .int .i64 m.st.h.n, .string m.st.h.r, .slice ao_u m.st.b.length cap_u, .int .i64 m.st.s, .int .i64 m.b.n, .string m.b.r][j]?) ∧ (∀ j, w'.cell? ⟨gg, j, none⟩ = #[.int .i64 1, .int .i64 9, .int .i64 m.id, .int .i64 M.n, .string M.r, .int .i64 0, ug][j]?)) (by kernel_rfl) ⟨c_m10, c_gg10⟩ (fun hHeld => ?_)
  refine Ke.y 0 rfl (fun _ _ _ h => h) ?_
  try simp only [Act.put, pu1, pu2, pu3, pu4, pu5, pu6]
  refine Ke.y 1 rfl (fun _ _ _ h => h) ?_
  try simp only [Act.put, pu1, pu2, pu3, pu4, pu5, pu6]
  refine Ke.y 2 rfl (fun _ _ _ h => h) ?_
  try simp only [Act.put, pu1, pu2, pu3, pu4, pu5, pu6]
  refine Ke.y 3 rfl (fun _ _ _ h => h) ?_
  try simp only [Act.put, pu1, pu2, pu3, pu4, pu5, pu6]
  refine Ke.y 4 rfl (fun _ _ _ h => h) ?_
  try simp only [Act.put, pu1, pu2, pu3, pu4, pu5, pu6]
  refine chain1 5 9 (fun aA xA aB wB => aB = aA.put (some 10) xA ∧ Below W10.heap.size W10 wB ∧ (∀ g : Nat, xA = (.pointer (some ⟨g, 0, none⟩)) → W10.heap.size ≤ g ∧ g < wB.heap.size ∧ wB.heap[g]? = some (.cells #[.int .i64 0, .slice none 0 0, .int .i64 0, .string ⟨#[]⟩, .slice none 0 0, .int .i64 0, .int .i64 0, .string ⟨#[]⟩] 32 (0, 0)))) (fun aA xA aB wB => ∃  (lo_xv hi_xv lo_xp hi_xp lo_xo hi_xo : Nat) (ao_xv : Option Addr) (L_xv cap_xv : Nat) (ao_xp : Option Addr) (L_xp cap_xp : Nat) (ao_xo : Option Addr) (L_xo cap_xo : Nat), aB = (aA.put (some 65) (.tuple #[.agg #[.int .i64 Xm.id, .slice ao_xv L_xv cap_xv, .int .i64 Xm.st.h.n, .string Xm.st.h.r, .slice ao_xp L_xp cap_xp, .int .i64 Xm.st.s, .int .i64 Xm.b.n, .string Xm.b.r], .slice ao_xo L_xo cap_xo])).put (some 10) xA ∧ Below W10.heap.size W10 wB ∧ W10.heap.size ≤ lo_xv ∧ lo_xv ≤ hi_xv ∧ hi_xv ≤ wB.heap.size ∧ W10.heap.size ≤ lo_xp ∧ lo_xp ≤ hi_xp ∧ hi_xp ≤ wB.heap.size ∧ W10.heap.size ≤ lo_xo ∧ lo_xo ≤ hi_xo ∧ hi_xo ≤ wB.heap.size ∧ (hi_xv ≤ lo_xp ∨ hi_xp ≤ lo_xv) ∧ (hi_xv ≤ lo_xo ∨ hi_xo ≤ lo_xv) ∧ (hi_xp ≤ lo_xo ∨ hi_xo ≤ lo_xp) ∧ Own wB lo_xv hi_xv 9 (.slice ao_xv L_xv cap_xv) (ss Xm.st.l) ∧ Own wB lo_xp hi_xp 5 (.slice ao_xp L_xp cap_xp) (bs Xm.st.b) ∧ Om wB lo_xo hi_xo (.slice ao_xo L_xo cap_xo) (S) ∧ (∀ g : Nat, xA = (.pointer (some ⟨g, 0, none⟩)) → W10.heap.size ≤ g ∧ g < wB.heap.size ∧ wB.heap[g]? = some (.cells #[.int .i64 0, .slice none 0 0, .int .i64 0, .string ⟨#[]⟩, .slice none 0 0, .int .i64 0, .int .i64 0, .string ⟨#[]⟩] 32 (0, 0)) ∧ (g < lo_xv ∨ hi_xv ≤ g) ∧ (g < lo_xp ∨ hi_xp ≤ g) ∧ (g < lo_xo ∨ hi_xo ≤ g))) (by decide) (by kernel_rfl) (by kernel_rfl) ?hC0x11 ?hA0x11 ?tJx11 ?tKx11 ?h0x11 hHeld
  case hC0x11 =>
   rintro xA a1 wq ⟨rfl, hD, hx⟩ hHeld
   have hBw : Below w.heap.size w wq := B10.out.trans (hD.mono B10.out.size)
   refine wpOp_weak rfl (fun K hK => ?_)
   try simp only [Act.put, pu1, pu2, pu3, pu4, pu5, pu6]
   go_simp
   refine (q6 wq _ _ _ _ hBw (f_v10.out.later hD) (f_u10.out.later hD) (f_t10.out.later hD) (f_ug10.out.later hD)).mono ?_
   rintro e w2 ⟨v_xv, v_xp, v_xo, mid, rfl, e8, e9, p9, p5, pm, b2⟩
   obtain ⟨lo_xv, hi_xv, lo_xp, hi_xp, e1, e2, e3, e4, e5, e6, e7, oo_xv, oo_xp⟩ := pairN p9 p5 e8
   obtain ⟨ao_xv, L_xv, cap_xv, rfl, _, _⟩ := oo_xv.form
   obtain ⟨ao_xp, L_xp, cap_xp, rfl, _, _⟩ := oo_xp.form
   obtain ⟨ao_xo, L_xo, cap_xo, rfl, hL8, hL9⟩ := pm.form
   clear hL8 hL9
   obtain ⟨lo_xo, hi_xo, e10, e11, oo_xo⟩ : ∃ lo hi, lo = mid ∧ hi = w2.heap.size ∧ Om w2 lo hi (.slice ao_xo L_xo cap_xo) S := ⟨_, _, rfl, rfl, pm⟩
   have hzq := b2.size
   have hzd := hD.size
   refine hK.out _ _ ⟨⟨(Ke.k (W := wq) hHeld.1 b2), (Ke.k (W := wq) hHeld.2 b2)⟩, lo_xv, hi_xv, lo_xp, hi_xp, lo_xo, hi_xo, ao_xv, L_xv, cap_xv, ao_xp, L_xp, cap_xp, ao_xo, L_xo, cap_xo, rfl, hD.trans (b2.mono hD.size), by omega, by omega, by omega, by omega, by omega, by omega, by omega, by omega, by omega, by omega, by omega, by omega, oo_xv, oo_xp, oo_xo, fun g hg => ?_⟩
   obtain ⟨g1, g2, g3⟩ := hx g hg
   exact ⟨g1, by omega, rowKeep g3 b2, by omega, by omega, by omega⟩
  case hA0x11 =>
   rintro a1 wq ⟨rfl, hD, hx⟩ hHeld
   refine wpOp_weak rfl (fun K hK => ?_)
   try simp only [Act.put, pu1, pu2, pu3, pu4, pu5, pu6]
   go_simp
   refine hK.out _ _ ⟨⟨(Ke.k (W := wq) hHeld.1 ((Below.refl _ _).alloc (Nat.le_refl _) _)), (Ke.k (W := wq) hHeld.2 ((Below.refl _ _).alloc (Nat.le_refl _) _))⟩, wq.heap.size, rfl, hD.alloc hD.size _, fun g hg => ?_⟩
   obtain rfl : wq.heap.size = g := by simpa using hg
   exact ⟨hD.size, by simp, heap_alloc_new wq _⟩
  case tJx11 =>
   rintro a1 W11 ⟨lo_xv, hi_xv, lo_xp, hi_xp, lo_xo, hi_xo, ao_xv, L_xv, cap_xv, ao_xp, L_xp, cap_xp, ao_xo, L_xo, cap_xo, rfl, D11, d1_xv, d2_xv, d3_xv, d1_xp, d2_xp, d3_xp, d1_xo, d2_xo, d3_xo, d_xv_xp, d_xv_xo, d_xp_xo, oo_xv, oo_xp, oo_xo, hx⟩ hHeld
   have z11 : W10.heap.size ≤ W11.heap.size := D11.size
   have B11 := Ke.b B10 D11
   have D11 : Hid (Below W10.heap.size W10 W11) := D11
   have o_xv11 : Hid (Own W11 lo_xv hi_xv 9 (.slice ao_xv L_xv cap_xv) (ss Xm.st.l)) := oo_xv
   clear oo_xv
   have o_xp11 : Hid (Own W11 lo_xp hi_xp 5 (.slice ao_xp L_xp cap_xp) (bs Xm.st.b)) := oo_xp
   clear oo_xp
   have o_xo11 : Hid (Om W11 lo_xo hi_xo (.slice ao_xo L_xo cap_xo) (S)) := oo_xo
   clear oo_xo
   clear hx
   try simp only [Act.put, pu1, pu2, pu3, pu4, pu5, pu6]
   refine Ke.y 6 rfl (fun _ _ _ h => h) ?_
   try simp only [Act.put, pu1, pu2, pu3, pu4, pu5, pu6]
   refine Ke.y 7 rfl (fun _ _ _ h => h) ?_
   try simp only [Act.put, pu1, pu2, pu3, pu4, pu5, pu6]
   refine Ke.y 8 rfl (fun _ _ _ h => h) ?_
   try simp only [Act.put, pu1, pu2, pu3, pu4, pu5, pu6]
   refine Ke.z 9 rfl (fun K hK => ?_)
   go_simp
   refine hK.out _ _ ⟨(Ke.k (W := W11) hHeld.1 ((Below.refl _ _).alloc (Nat.le_refl _) _)), (Ke.k (W := W11) hHeld.2 ((Below.refl _ _).alloc (Nat.le_refl _) _))⟩ (fun hHeld => ?_)
   clear hK K
   try simp only [Act.put, pu1, pu2, pu3, pu4, pu5, pu6]
   obtain ⟨W12, HW12, b12, y12, r_x12⟩ : ∃ X, Hid ((W11.alloc (.cells #[.int .i64 0, .slice none 0 0, .int .i64 0, .string ⟨#[]⟩, .slice none 0 0, .int .i64 0, .int .i64 0, .string ⟨#[]⟩] 32)) = X) ∧ Below W11.heap.size W11 X ∧ W11.heap.size + 1 ≤ X.heap.size ∧ Hid (X.heap[W11.heap.size]? = some (.cells #[.int .i64 0, .slice none 0 0, .int .i64 0, .string ⟨#[]⟩, .slice none 0 0, .int .i64 0, .int .i64 0, .string ⟨#[]⟩] 32 (0, 0))) := ⟨_, rfl, ((Below.refl _ _).alloc (Nat.le_refl _) _), (by show _ ≤ (W11.heap.push _).size; simp), heap_alloc_new W11 _⟩
   have HHW12 := HW12.out
   rw [HHW12] at hHeld ⊢
   clear HHW12
   have z12 := b12.size
   have B12 := Ke.b B11 b12
   have o_xv12 := Ke.o o_xv11 b12
   have o_xp12 := Ke.o o_xp11 b12
   have o_xo12 := Ke.h (Om.later o_xo11.out b12 (by omega))
   have c_x12 := Ke.c r_x12
   clear o_xv11 o_xp11 o_xo11
   have D12 := Ke.b D11 b12
   refine Ke.z 10 rfl (fun K hK => ?_)
   rw [if_pos (by rfl)]
   refine wp_store_row 32 _ _ rfl (W11.heap.size) (mq Xm.id (.slice ao_xv L_xv cap_xv) Xm.st.h (.slice ao_xp L_xp cap_xp) Xm.st.s Xm.b) rfl rfl 32 _ r_x12.out (sizeQ _ _ _ _ _ _) rfl (oneQ _ _ _ _ rfl rfl) ?_
   refine hK.out _ _ ⟨(Ke.w (by show W1.heap.size ≠ W11.heap.size; omega) hHeld.1), (Ke.w (by show gg ≠ W11.heap.size; omega) hHeld.2)⟩ (fun hHeld => ?_)
   clear hK K
   try simp only [Act.put, pu1, pu2, pu3, pu4, pu5, pu6]
   have D13a : Below W10.heap.size W10 (W12.setRow (W11.heap.size) (mq Xm.id (.slice ao_xv L_xv cap_xv) Xm.st.h (.slice ao_xp L_xp cap_xp) Xm.st.s Xm.b)) := below_setRow D12.out (by omega) _
   obtain ⟨W13, HW13⟩ : ∃ X, Hid (W12.setRow (W11.heap.size) (mq Xm.id (.slice ao_xv L_xv cap_xv) Xm.st.h (.slice ao_xp L_xp cap_xp) Xm.st.s Xm.b) = X) := ⟨_, rfl⟩
   have z13 : W12.heap.size ≤ W13.heap.size := by rw [← HW13.out]; simp
   have B13 : Hid (Below w.heap.size w W13) := by show Below _ _ _; rw [← HW13.out]; exact below_setRow B12.out (by have := B12.out.size; omega) _
   have o_xv13 : Hid (Own W13 (lo_xv) (hi_xv) 9 (.slice ao_xv L_xv cap_xv) (ss Xm.st.l)) := by show Own _ _ _ _ _ _; rw [← HW13.out]; exact Own.setRow o_xv12.out _ (by omega)
   have o_xp13 : Hid (Own W13 (lo_xp) (hi_xp) 5 (.slice ao_xp L_xp cap_xp) (bs Xm.st.b)) := by show Own _ _ _ _ _ _; rw [← HW13.out]; exact Own.setRow o_xp12.out _ (by omega)
   have o_xo13 : Hid (Om W13 (lo_xo) (hi_xo) (.slice ao_xo L_xo cap_xo) (S)) := by show Om _ _ _ _ _; rw [← HW13.out]; exact Om.setRow o_xo12.out _ (by omega)
   have r_x13 : Hid (W13.heap[W11.heap.size]? = some (.cells #[.int .i64 Xm.id, .slice ao_xv L_xv cap_xv, .int .i64 Xm.st.h.n, .string Xm.st.h.r, .slice ao_xp L_xp cap_xp, .int .i64 Xm.st.s, .int .i64 Xm.b.n, .string Xm.b.r] 32 (0, 0))) := by show _ = _; rw [← HW13.out]; exact setRow_heap _ _ _ _ _ (0, 0) r_x12.out
   rw [HW13.out]
   clear r_x12 c_x12 o_xv12 o_xp12 o_xo12
   have c_x13 := Ke.c r_x13
   rw [HW13.out] at hHeld
   have D13 : Hid (Below W10.heap.size W10 W13) := by show Below _ _ _; rw [← HW13.out]; exact D13a
   refine Ke.y 11 rfl (fun _ _ _ h => h) ?_
   try simp only [Act.put, pu1, pu2, pu3, pu4, pu5, pu6]
   refine wpAnyH_done (by kernel_rfl) ?_ _
   clear hHeld
   go_wp2_with fail
   go_meet
   exact ⟨W11.heap.size, rfl, by omega, (Array.getElem?_eq_some_iff.1 r_x13.out).1, D13.out, lo_xv, hi_xv, ao_xv, L_xv, cap_xv, lo_xp, hi_xp, ao_xp, L_xp, cap_xp, lo_xo, hi_xo, ao_xo, L_xo, cap_xo, rfl, rfl, by omega, by omega, by omega, by omega, by omega, by omega, by omega, by omega, by omega, by omega, by omega, by omega, o_xv13.out, o_xp13.out, o_xo13.out, by omega, by omega, by omega, r_x13.out⟩
  case tKx11 =>
   rintro g_x a1 W11 ⟨lo_xv, hi_xv, lo_xp, hi_xp, lo_xo, hi_xo, ao_xv, L_xv, cap_xv, ao_xp, L_xp, cap_xp, ao_xo, L_xo, cap_xo, rfl, D11, d1_xv, d2_xv, d3_xv, d1_xp, d2_xp, d3_xp, d1_xo, d2_xo, d3_xo, d_xv_xp, d_xv_xo, d_xp_xo, oo_xv, oo_xp, oo_xo, hx⟩ hHeld
   have z11 : W10.heap.size ≤ W11.heap.size := D11.size
   have B11 := Ke.b B10 D11
   have D11 : Hid (Below W10.heap.size W10 W11) := D11
   obtain ⟨hg1_x, hg2_x, hg3_x, hgf_xv, hgf_xp, hgf_xo⟩ := hx g_x rfl
   have r_x11 : Hid (W11.heap[g_x]? = some (.cells #[.int .i64 0, .slice none 0 0, .int .i64 0, .string ⟨#[]⟩, .slice none 0 0, .int .i64 0, .int .i64 0, .string ⟨#[]⟩] 32 (0, 0))) := hg3_x
   clear hg3_x
   have o_xv11 : Hid (Own W11 lo_xv hi_xv 9 (.slice ao_xv L_xv cap_xv) (ss Xm.st.l)) := oo_xv
   clear oo_xv
   have o_xp11 : Hid (Own W11 lo_xp hi_xp 5 (.slice ao_xp L_xp cap_xp) (bs Xm.st.b)) := oo_xp
   clear oo_xp
   have o_xo11 : Hid (Om W11 lo_xo hi_xo (.slice ao_xo L_xo cap_xo) (S)) := oo_xo
   clear oo_xo
   clear hx
   try simp only [Act.put, pu1, pu2, pu3, pu4, pu5, pu6]
   have c_x11 := Ke.c r_x11
   refine Ke.y 6 rfl (fun _ _ _ h => h) ?_
   try simp only [Act.put, pu1, pu2, pu3, pu4, pu5, pu6]
   refine Ke.y 7 rfl (fun _ _ _ h => h) ?_
   try simp only [Act.put, pu1, pu2, pu3, pu4, pu5, pu6]
   refine Ke.y 8 rfl (fun _ _ _ h => h) ?_
   try simp only [Act.put, pu1, pu2, pu3, pu4, pu5, pu6]
   refine Ke.z 10 rfl (fun K hK => ?_)
   rw [if_pos (by rfl)]
   refine wp_store_row 32 _ _ rfl (g_x) (mq Xm.id (.slice ao_xv L_xv cap_xv) Xm.st.h (.slice ao_xp L_xp cap_xp) Xm.st.s Xm.b) rfl rfl 32 _ r_x11.out (sizeQ _ _ _ _ _ _) rfl (oneQ _ _ _ _ rfl rfl) ?_
   refine hK.out _ _ ⟨(Ke.w (by show W1.heap.size ≠ g_x; omega) hHeld.1), (Ke.w (by show gg ≠ g_x; omega) hHeld.2)⟩ (fun hHeld => ?_)
   clear hK K
   try simp only [Act.put, pu1, pu2, pu3, pu4, pu5, pu6]
   have D12a : Below W10.heap.size W10 (W11.setRow (g_x) (mq Xm.id (.slice ao_xv L_xv cap_xv) Xm.st.h (.slice ao_xp L_xp cap_xp) Xm.st.s Xm.b)) := below_setRow D11.out (by omega) _
   obtain ⟨W12, HW12⟩ : ∃ X, Hid (W11.setRow (g_x) (mq Xm.id (.slice ao_xv L_xv cap_xv) Xm.st.h (.slice ao_xp L_xp cap_xp) Xm.st.s Xm.b) = X) := ⟨_, rfl⟩
   have z12 : W11.heap.size ≤ W12.heap.size := by rw [← HW12.out]; simp
   have B12 : Hid (Below w.heap.size w W12) := by show Below _ _ _; rw [← HW12.out]; exact below_setRow B11.out (by have := B11.out.size; omega) _
   have o_xv12 : Hid (Own W12 (lo_xv) (hi_xv) 9 (.slice ao_xv L_xv cap_xv) (ss Xm.st.l)) := by show Own _ _ _ _ _ _; rw [← HW12.out]; exact Own.setRow o_xv11.out _ (by omega)
   have o_xp12 : Hid (Own W12 (lo_xp) (hi_xp) 5 (.slice ao_xp L_xp cap_xp) (bs Xm.st.b)) := by show Own _ _ _ _ _ _; rw [← HW12.out]; exact Own.setRow o_xp11.out _ (by omega)
   have o_xo12 : Hid (Om W12 (lo_xo) (hi_xo) (.slice ao_xo L_xo cap_xo) (S)) := by show Om _ _ _ _ _; rw [← HW12.out]; exact Om.setRow o_xo11.out _ (by omega)
   have r_x12 : Hid (W12.heap[g_x]? = some (.cells #[.int .i64 Xm.id, .slice ao_xv L_xv cap_xv, .int .i64 Xm.st.h.n, .string Xm.st.h.r, .slice ao_xp L_xp cap_xp, .int .i64 Xm.st.s, .int .i64 Xm.b.n, .string Xm.b.r] 32 (0, 0))) := by show _ = _; rw [← HW12.out]; exact setRow_heap _ _ _ _ _ (0, 0) r_x11.out
   rw [HW12.out]
   clear r_x11 c_x11 o_xv11 o_xp11 o_xo11
   have c_x12 := Ke.c r_x12
   rw [HW12.out] at hHeld
   have D12 : Hid (Below W10.heap.size W10 W12) := by show Below _ _ _; rw [← HW12.out]; exact D12a
   refine Ke.y 11 rfl (fun _ _ _ h => h) ?_
   try simp only [Act.put, pu1, pu2, pu3, pu4, pu5, pu6]
   refine wpAnyH_done (by kernel_rfl) ?_ _
   clear hHeld
   go_wp2_with fail
   go_meet
   exact ⟨g_x, rfl, by omega, (Array.getElem?_eq_some_iff.1 r_x12.out).1, D12.out, lo_xv, hi_xv, ao_xv, L_xv, cap_xv, lo_xp, hi_xp, ao_xp, L_xp, cap_xp, lo_xo, hi_xo, ao_xo, L_xo, cap_xo, rfl, rfl, by omega, by omega, by omega, by omega, by omega, by omega, by omega, by omega, by omega, by omega, by omega, by omega, o_xv12.out, o_xp12.out, o_xo12.out, by omega, by omega, by omega, r_x12.out⟩
  case h0x11 =>
   exact ⟨rfl, Below.drew (Below.refl _ _), fun g hg => by cases hg⟩
 case rest =>
 obtain ⟨g_x, rfl, hg_x, hg2_x, b11, lo_xv, hi_xv, ao_xv, L_xv, cap_xv, lo_xp, hi_xp, ao_xp, L_xp, cap_xp, lo_xo, hi_xo, ao_xo, L_xo, cap_xo, rfl, rfl, d1_xv, d2_xv, d3_xv, d1_xp, d2_xp, d3_xp, d1_xo, d2_xo, d3_xo, d_xv_xp, d_xv_xo, d_xp_xo, oo_xv, oo_xp, oo_xo, hgf_xv, hgf_xp, hgf_xo, r_x11⟩ := hcut
 revert hg2_x b11 d3_xv d3_xp d3_xo oo_xv oo_xp oo_xo r_x11
 generalize wc = W11
 intro hg2_x b11 d3_xv d3_xp d3_xo oo_xv oo_xp oo_xo r_x11
 have r_x11 : Hid (W11.heap[g_x]? = some (.cells #[.int .i64 Xm.id, .slice ao_xv L_xv cap_xv, .int .i64 Xm.st.h.n, .string Xm.st.h.r, .slice ao_xp L_xp cap_xp, .int .i64 Xm.st.s, .int .i64 Xm.b.n, .string Xm.b.r] 32 (0, 0))) := r_x11
 have o_xv11 : Hid (Own W11 lo_xv hi_xv 9 (.slice ao_xv L_xv cap_xv) (ss Xm.st.l)) := oo_xv
 clear oo_xv
 have o_xp11 : Hid (Own W11 lo_xp hi_xp 5 (.slice ao_xp L_xp cap_xp) (bs Xm.st.b)) := oo_xp
 clear oo_xp
 have o_xo11 : Hid (Om W11 lo_xo hi_xo (.slice ao_xo L_xo cap_xo) (S)) := oo_xo
 clear oo_xo
 have z11 := b11.size
 have B11 := Ke.b B10 b11
 have r_m11 := Ke.r r_m10 b11
 have r_o11 := Ke.r r_o10 b11
 have r_gg11 := Ke.r r_gg10 b11
 have c_m11 := Ke.c r_m11
 have c_o11 := Ke.c r_o11
 have c_gg11 := Ke.c r_gg11
 have c_x11 := Ke.c r_x11
 clear r_m10 c_m10 r_o10 c_o10 r_gg10 c_gg10
 have f_v11 := Ke.h (Sl.later f_v10.out b11)
 have f_u11 := Ke.h (Sl.later f_u10.out b11)
 have f_t11 := Ke.h (Sh.later f_t10.out b11)
 have f_a11 := Ke.h (Sl.later f_a10.out b11)
 have f_f11 := Ke.h (Sl.later f_f10.out b11)
 have f_fp11 := Ke.h (Sl.later f_fp10.out b11)
 have f_ug11 := Ke.h (Sl.later f_ug10.out b11)
 clear f_v10 f_u10 f_t10 f_a10 f_f10 f_fp10 f_ug10
 clear r_gg11 c_gg11
 clear f_ug11
 clear q6
 by_cases heq : m.st.l.length = all.length
 ·
  obtain ⟨p1, p2⟩ := F8.out heq
  have P1 : Hid (m.st.l = all) := p1
  subst p2
  clear p1 F8 F9
  obtain ⟨ao9, L9, c9, he, hL0, _⟩ := Om.form o_xo11.out
  simp only [Value.slice.injEq, List.length_nil] at he hL0
  obtain ⟨rfl, rfl, rfl⟩ := he
  subst hL0
  have e7 : ((m.st.l.length : Int) == (all.length : Int)) = true := by rw [heq]; simp
  have HEQ : Hid (m.st.l.length = all.length) := heq
  clear heq
  go_wp2_with fail
  refine (Draw.same_true W11 _ _ all (by have h9 := f_v11.out; rw [P1.out] at h9 ⊢; exact h9) f_a11.out (by omega)).mono ?_
  rintro e W12 ⟨rfl, h12, _⟩
  have b12 : Below W11.heap.size W11 W12 := h12 _
  clear h12
  have z12 := b12.size
  have B12 := Ke.b B11 b12
  have r_m12 := Ke.r r_m11 b12
  have r_o12 := Ke.r r_o11 b12
  have r_x12 := Ke.r r_x11 b12
  have o_xv12 := Ke.o o_xv11 b12
  have o_xp12 := Ke.o o_xp11 b12
  have o_xo12 := Ke.h (Om.later o_xo11.out b12 (by omega))
  have c_m12 := Ke.c r_m12
  have c_o12 := Ke.c r_o12
  have c_x12 := Ke.c r_x12
  clear r_m11 c_m11 r_o11 c_o11 r_x11 c_x11 o_xv11 o_xp11 o_xo11
  have f_v12 := Ke.h (Sl.later f_v11.out b12)
  have f_u12 := Ke.h (Sl.later f_u11.out b12)
  have f_t12 := Ke.h (Sh.later f_t11.out b12)
  have f_a12 := Ke.h (Sl.later f_a11.out b12)
  have f_f12 := Ke.h (Sl.later f_f11.out b12)
  have f_fp12 := Ke.h (Sl.later f_fp11.out b12)
  clear f_v11 f_u11 f_t11 f_a11 f_f11 f_fp11
  go_wp2
  go_ret
  exact ⟨rfl, B12.out⟩
 ·
  have hlt : m.st.l.length < all.length := by omega
  obtain ⟨p1, p2, p3, p4, p5⟩ := F9.out hlt
  simp only [Prod.mk.injEq] at p1
  obtain ⟨p0, p1⟩ := p1
  subst p0 p1
  clear F8 F9
  have e7 : ((m.st.l.length : Int) == (all.length : Int)) = false := by rw [beq_eq_false_iff_ne]; omega
  clear c_x11
  have r_x11 : Hid (W11.heap[g_x]? = some (.cells #[.int .i64 m.id, .slice ao_xv L_xv cap_xv, .int .i64 m.st.h.n, .string m.st.h.r, .slice ao_xp L_xp cap_xp, .int .i64 m.st.s, .int .i64 M.n, .string M.r] 32 (0, 0))) := r_x11
  have c_x11 := Ke.c r_x11
  have o_xv11 : Hid (Own W11 (lo_xv) (hi_xv) 9 (.slice ao_xv L_xv cap_xv) (ss m.st.l)) := o_xv11
  have o_xp11 : Hid (Own W11 (lo_xp) (hi_xp) 5 (.slice ao_xp L_xp cap_xp) (bs m.st.b)) := o_xp11
  obtain ⟨ga, ua, rfl, rfl, rfl, hr_ga, ho_ua⟩ := Om.get1 o_xo11.out
  clear o_xo11
  have r_ga11 : Hid (W11.heap[ga]? = some (.cells #[.int .i64 2, .int .i64 m.id, .int .i64 9, .int .i64 M.n, .string M.r, .int .i64 (m.st.l.length : Int), ua] 35 (0, 0))) := hr_ga
  have hgb_ga : ga < W11.heap.size := (Array.getElem?_eq_some_iff.1 hr_ga).1
  clear hr_ga
  have c_ga11 := Ke.c r_ga11
  have f_ua11 : Hid (Sl W11 ua (ss [])) := ho_ua.sl
  clear ho_ua
  have f_xv911 : Hid (Sl W11 (.slice ao_xv L_xv cap_xv) (ss m.st.l)) := o_xv11.out.sl
  have f_xp911 : Hid (Sl W11 (.slice ao_xp L_xp cap_xp) (bs m.st.b)) := o_xp11.out.sl
  clear o_xv11
  clear o_xp11
  obtain ⟨Z, S2, hZ⟩ : ∃ X S, hear (⟨9, ⟨all, M, fb, 0⟩, M⟩ : Mr) t (⟨2, m.id, 9, M, (m.st.l.length : Int), []⟩ : Ms) = (X, S) := ⟨_, _, rfl⟩
  have q7 : ∀ W v1 v2 v3 v4, Below w.heap.size w W → Sl W v1 (ss (⟨9, ⟨all, M, fb, 0⟩, M⟩ : Mr).st.l) → Sl W v2 (bs (⟨9, ⟨all, M, fb, 0⟩, M⟩ : Mr).st.b) → Sh W v3 t → Sl W v4 (ss (⟨2, m.id, 9, M, (m.st.l.length : Int), []⟩ : Ms).x) → _ := fun W v1 v2 v3 v4 hB h1 h2 h3 h4 => hear_impl W v1 v2 v3 v4 (⟨9, ⟨all, M, fb, 0⟩, M⟩ : Mr) t (⟨2, m.id, 9, M, (m.st.l.length : Int), []⟩ : Ms) (HG.out.later hB) (NoC.later HNC.out hB) (HF.out.later hB) (by (try simp only); omega) (by (try simp only); omega) h1 h2 HFB.out h3 (by (try simp only); omega) (by (try simp only); omega) (by omega) HAZ.out h4 (by simp) (fun s hs => by cases hs) (by simp [Puts.tot]) (by (try simp only); omega)
  simp only [hZ] at q7 p2
  clear hZ
  subst p2
  go_upto_region 16 with fail
  go_cut [12, 13] (fun s12 s13 wx => ∃ g : Nat, s12 = (.pointer (some ⟨g, 0, none⟩)) ∧ W11.heap.size ≤ g ∧ g < wx.heap.size ∧ Below W11.heap.size W11 wx ∧ ∃ lo_zv hi_zv ao_zv L_zv cap_zv lo_zp hi_zp ao_zp L_zp cap_zp lo_zo hi_zo ao_zo L_zo cap_zo, s13 = .slice ao_zo L_zo cap_zo ∧ W11.heap.size ≤ lo_zv ∧ lo_zv ≤ hi_zv ∧ hi_zv ≤ wx.heap.size ∧ W11.heap.size ≤ lo_zp ∧ lo_zp ≤ hi_zp ∧ hi_zp ≤ wx.heap.size ∧ W11.heap.size ≤ lo_zo ∧ lo_zo ≤ hi_zo ∧ hi_zo ≤ wx.heap.size ∧ (hi_zv ≤ lo_zp ∨ hi_zp ≤ lo_zv) ∧ (hi_zv ≤ lo_zo ∨ hi_zo ≤ lo_zv) ∧ (hi_zp ≤ lo_zo ∨ hi_zo ≤ lo_zp) ∧ Own wx lo_zv hi_zv 9 (.slice ao_zv L_zv cap_zv) (ss Z.st.l) ∧ Own wx lo_zp hi_zp 5 (.slice ao_zp L_zp cap_zp) (bs Z.st.b) ∧ Om wx lo_zo hi_zo (.slice ao_zo L_zo cap_zo) ([(⟨3, 9, m.id, M, (m.st.l.length : Int), all.drop m.st.l.length⟩ : Ms)]) ∧ (g < lo_zv ∨ hi_zv ≤ g) ∧ (g < lo_zp ∨ hi_zp ≤ g) ∧ (g < lo_zo ∨ hi_zo ≤ g) ∧ wx.heap[g]? = some (.cells #[.int .i64 Z.id, .slice ao_zv L_zv cap_zv, .int .i64 Z.st.h.n, .string Z.st.h.r, .slice ao_zp L_zp cap_zp, .int .i64 Z.st.s, .int .i64 Z.b.n, .string Z.b.r] 32 (0, 0)))
  case first =>
   have D11 : Hid (Below W11.heap.size W11 W11) := Below.refl _ _
   refine wp_region_held_drew (S := fun w' => (∀ j, w'.cell? ⟨g_o, j, none⟩ = #[.int .i64 9, .slice ao_f all.length cap_f, .int .i64 M.n, .string M.r, .slice ao_fp fb.length cap_fp, .int .i64 0, .int .i64 M.n, .string M.r][j]?) ∧ (∀ j, w'.cell? ⟨ga, j, none⟩ = #[.int .i64 2, .int .i64 m.id, .int .i64 9, .int .i64 M.n, .string M.r, .int .i64 (m.st.l.length : Int), ua][j]?)) (by kernel_rfl) ⟨c_o11, c_ga11⟩ (fun hHeld => ?_)
   refine Ke.y 0 rfl (fun _ _ _ h => h) ?_
   try simp only [Act.put, pu1, pu2, pu3, pu4, pu5, pu6]
   refine Ke.y 1 rfl (fun _ _ _ h => h) ?_
   try simp only [Act.put, pu1, pu2, pu3, pu4, pu5, pu6]
   refine Ke.y 2 rfl (fun _ _ _ h => h) ?_
   try simp only [Act.put, pu1, pu2, pu3, pu4, pu5, pu6]
   refine Ke.y 3 rfl (fun _ _ _ h => h) ?_
   try simp only [Act.put, pu1, pu2, pu3, pu4, pu5, pu6]
   refine Ke.y 4 rfl (fun _ _ _ h => h) ?_
   try simp only [Act.put, pu1, pu2, pu3, pu4, pu5, pu6]
   refine chain1 5 9 (fun aA xA aB wB => aB = aA.put (some 12) xA ∧ Below W11.heap.size W11 wB ∧ (∀ g : Nat, xA = (.pointer (some ⟨g, 0, none⟩)) → W11.heap.size ≤ g ∧ g < wB.heap.size ∧ wB.heap[g]? = some (.cells #[.int .i64 0, .slice none 0 0, .int .i64 0, .string ⟨#[]⟩, .slice none 0 0, .int .i64 0, .int .i64 0, .string ⟨#[]⟩] 32 (0, 0)))) (fun aA xA aB wB => ∃  (lo_zv hi_zv lo_zp hi_zp lo_zo hi_zo : Nat) (ao_zv : Option Addr) (L_zv cap_zv : Nat) (ao_zp : Option Addr) (L_zp cap_zp : Nat) (ao_zo : Option Addr) (L_zo cap_zo : Nat), aB = (aA.put (some 96) (.tuple #[.agg #[.int .i64 Z.id, .slice ao_zv L_zv cap_zv, .int .i64 Z.st.h.n, .string Z.st.h.r, .slice ao_zp L_zp cap_zp, .int .i64 Z.st.s, .int .i64 Z.b.n, .string Z.b.r], .slice ao_zo L_zo cap_zo])).put (some 12) xA ∧ Below W11.heap.size W11 wB ∧ W11.heap.size ≤ lo_zv ∧ lo_zv ≤ hi_zv ∧ hi_zv ≤ wB.heap.size ∧ W11.heap.size ≤ lo_zp ∧ lo_zp ≤ hi_zp ∧ hi_zp ≤ wB.heap.size ∧ W11.heap.size ≤ lo_zo ∧ lo_zo ≤ hi_zo ∧ hi_zo ≤ wB.heap.size ∧ (hi_zv ≤ lo_zp ∨ hi_zp ≤ lo_zv) ∧ (hi_zv ≤ lo_zo ∨ hi_zo ≤ lo_zv) ∧ (hi_zp ≤ lo_zo ∨ hi_zo ≤ lo_zp) ∧ Own wB lo_zv hi_zv 9 (.slice ao_zv L_zv cap_zv) (ss Z.st.l) ∧ Own wB lo_zp hi_zp 5 (.slice ao_zp L_zp cap_zp) (bs Z.st.b) ∧ Om wB lo_zo hi_zo (.slice ao_zo L_zo cap_zo) ([(⟨3, 9, m.id, M, (m.st.l.length : Int), all.drop m.st.l.length⟩ : Ms)]) ∧ (∀ g : Nat, xA = (.pointer (some ⟨g, 0, none⟩)) → W11.heap.size ≤ g ∧ g < wB.heap.size ∧ wB.heap[g]? = some (.cells #[.int .i64 0, .slice none 0 0, .int .i64 0, .string ⟨#[]⟩, .slice none 0 0, .int .i64 0, .int .i64 0, .string ⟨#[]⟩] 32 (0, 0)) ∧ (g < lo_zv ∨ hi_zv ≤ g) ∧ (g < lo_zp ∨ hi_zp ≤ g) ∧ (g < lo_zo ∨ hi_zo ≤ g))) (by decide) (by kernel_rfl) (by kernel_rfl) ?hC0x16 ?hA0x16 ?tJx16 ?tKx16 ?h0x16 hHeld
   case hC0x16 =>
    rintro xA a1 wq ⟨rfl, hD, hx⟩ hHeld
    have hBw : Below w.heap.size w wq := B11.out.trans (hD.mono B11.out.size)
    refine wpOp_weak rfl (fun K hK => ?_)
    try simp only [Act.put, pu1, pu2, pu3, pu4, pu5, pu6]
    go_simp
    refine (q7 wq _ _ _ _ hBw (f_f11.out.later hD) (f_fp11.out.later hD) (f_t11.out.later hD) (f_ua11.out.later hD)).mono ?_
    rintro e w2 ⟨v_zv, v_zp, v_zo, mid, rfl, e8, e9, p9, p5, pm, b2⟩
    obtain ⟨lo_zv, hi_zv, lo_zp, hi_zp, e1, e2, e3, e4, e5, e6, e7, oo_zv, oo_zp⟩ := pairN p9 p5 e8
    obtain ⟨ao_zv, L_zv, cap_zv, rfl, _, _⟩ := oo_zv.form
    obtain ⟨ao_zp, L_zp, cap_zp, rfl, _, _⟩ := oo_zp.form
    obtain ⟨ao_zo, L_zo, cap_zo, rfl, hL8, hL9⟩ := pm.form
    clear hL8 hL9
    obtain ⟨lo_zo, hi_zo, e10, e11, oo_zo⟩ : ∃ lo hi, lo = mid ∧ hi = w2.heap.size ∧ Om w2 lo hi (.slice ao_zo L_zo cap_zo) [(⟨3, 9, m.id, M, (m.st.l.length : Int), all.drop m.st.l.length⟩ : Ms)] := ⟨_, _, rfl, rfl, pm⟩
    have hzq := b2.size
    have hzd := hD.size
    refine hK.out _ _ ⟨⟨(Ke.k (W := wq) hHeld.1 b2), (Ke.k (W := wq) hHeld.2 b2)⟩, lo_zv, hi_zv, lo_zp, hi_zp, lo_zo, hi_zo, ao_zv, L_zv, cap_zv, ao_zp, L_zp, cap_zp, ao_zo, L_zo, cap_zo, rfl, hD.trans (b2.mono hD.size), by omega, by omega, by omega, by omega, by omega, by omega, by omega, by omega, by omega, by omega, by omega, by omega, oo_zv, oo_zp, oo_zo, fun g hg => ?_⟩
    obtain ⟨g1, g2, g3⟩ := hx g hg
    exact ⟨g1, by omega, rowKeep g3 b2, by omega, by omega, by omega⟩
   case hA0x16 =>
    rintro a1 wq ⟨rfl, hD, hx⟩ hHeld
    refine wpOp_weak rfl (fun K hK => ?_)
    try simp only [Act.put, pu1, pu2, pu3, pu4, pu5, pu6]
    go_simp
    refine hK.out _ _ ⟨⟨(Ke.k (W := wq) hHeld.1 ((Below.refl _ _).alloc (Nat.le_refl _) _)), (Ke.k (W := wq) hHeld.2 ((Below.refl _ _).alloc (Nat.le_refl _) _))⟩, wq.heap.size, rfl, hD.alloc hD.size _, fun g hg => ?_⟩
    obtain rfl : wq.heap.size = g := by simpa using hg
    exact ⟨hD.size, by simp, heap_alloc_new wq _⟩
   case tJx16 =>
    rintro a1 W12 ⟨lo_zv, hi_zv, lo_zp, hi_zp, lo_zo, hi_zo, ao_zv, L_zv, cap_zv, ao_zp, L_zp, cap_zp, ao_zo, L_zo, cap_zo, rfl, D12, d1_zv, d2_zv, d3_zv, d1_zp, d2_zp, d3_zp, d1_zo, d2_zo, d3_zo, d_zv_zp, d_zv_zo, d_zp_zo, oo_zv, oo_zp, oo_zo, hx⟩ hHeld
    have z12 : W11.heap.size ≤ W12.heap.size := D12.size
    have B12 := Ke.b B11 D12
    have D12 : Hid (Below W11.heap.size W11 W12) := D12
    have o_zv12 : Hid (Own W12 lo_zv hi_zv 9 (.slice ao_zv L_zv cap_zv) (ss Z.st.l)) := oo_zv
    clear oo_zv
    have o_zp12 : Hid (Own W12 lo_zp hi_zp 5 (.slice ao_zp L_zp cap_zp) (bs Z.st.b)) := oo_zp
    clear oo_zp
    have o_zo12 : Hid (Om W12 lo_zo hi_zo (.slice ao_zo L_zo cap_zo) ([(⟨3, 9, m.id, M, (m.st.l.length : Int), all.drop m.st.l.length⟩ : Ms)])) := oo_zo
    clear oo_zo
    clear hx
    try simp only [Act.put, pu1, pu2, pu3, pu4, pu5, pu6]
    refine Ke.y 6 rfl (fun _ _ _ h => h) ?_
    try simp only [Act.put, pu1, pu2, pu3, pu4, pu5, pu6]
    refine Ke.y 7 rfl (fun _ _ _ h => h) ?_
    try simp only [Act.put, pu1, pu2, pu3, pu4, pu5, pu6]
    refine Ke.y 8 rfl (fun _ _ _ h => h) ?_
    try simp only [Act.put, pu1, pu2, pu3, pu4, pu5, pu6]
    refine Ke.z 9 rfl (fun K hK => ?_)
    go_simp
    refine hK.out _ _ ⟨(Ke.k (W := W12) hHeld.1 ((Below.refl _ _).alloc (Nat.le_refl _) _)), (Ke.k (W := W12) hHeld.2 ((Below.refl _ _).alloc (Nat.le_refl _) _))⟩ (fun hHeld => ?_)
    clear hK K
    try simp only [Act.put, pu1, pu2, pu3, pu4, pu5, pu6]
    obtain ⟨W13, HW13, b13, y13, r_z13⟩ : ∃ X, Hid ((W12.alloc (.cells #[.int .i64 0, .slice none 0 0, .int .i64 0, .string ⟨#[]⟩, .slice none 0 0, .int .i64 0, .int .i64 0, .string ⟨#[]⟩] 32)) = X) ∧ Below W12.heap.size W12 X ∧ W12.heap.size + 1 ≤ X.heap.size ∧ Hid (X.heap[W12.heap.size]? = some (.cells #[.int .i64 0, .slice none 0 0, .int .i64 0, .string ⟨#[]⟩, .slice none 0 0, .int .i64 0, .int .i64 0, .string ⟨#[]⟩] 32 (0, 0))) := ⟨_, rfl, ((Below.refl _ _).alloc (Nat.le_refl _) _), (by show _ ≤ (W12.heap.push _).size; simp), heap_alloc_new W12 _⟩
    have HHW13 := HW13.out
    rw [HHW13] at hHeld ⊢
    clear HHW13
    have z13 := b13.size
    have B13 := Ke.b B12 b13
    have o_zv13 := Ke.o o_zv12 b13
    have o_zp13 := Ke.o o_zp12 b13
    have o_zo13 := Ke.h (Om.later o_zo12.out b13 (by omega))
    have c_z13 := Ke.c r_z13
    clear o_zv12 o_zp12 o_zo12
    have D13 := Ke.b D12 b13
    refine Ke.z 10 rfl (fun K hK => ?_)
    rw [if_pos (by rfl)]
    refine wp_store_row 32 _ _ rfl (W12.heap.size) (mq Z.id (.slice ao_zv L_zv cap_zv) Z.st.h (.slice ao_zp L_zp cap_zp) Z.st.s Z.b) rfl rfl 32 _ r_z13.out (sizeQ _ _ _ _ _ _) rfl (oneQ _ _ _ _ rfl rfl) ?_
    refine hK.out _ _ ⟨(Ke.w (by show g_o ≠ W12.heap.size; omega) hHeld.1), (Ke.w (by show ga ≠ W12.heap.size; omega) hHeld.2)⟩ (fun hHeld => ?_)
    clear hK K
    try simp only [Act.put, pu1, pu2, pu3, pu4, pu5, pu6]
    have D14a : Below W11.heap.size W11 (W13.setRow (W12.heap.size) (mq Z.id (.slice ao_zv L_zv cap_zv) Z.st.h (.slice ao_zp L_zp cap_zp) Z.st.s Z.b)) := below_setRow D13.out (by omega) _
    obtain ⟨W14, HW14⟩ : ∃ X, Hid (W13.setRow (W12.heap.size) (mq Z.id (.slice ao_zv L_zv cap_zv) Z.st.h (.slice ao_zp L_zp cap_zp) Z.st.s Z.b) = X) := ⟨_, rfl⟩
    have z14 : W13.heap.size ≤ W14.heap.size := by rw [← HW14.out]; simp
    have B14 : Hid (Below w.heap.size w W14) := by show Below _ _ _; rw [← HW14.out]; exact below_setRow B13.out (by have := B13.out.size; omega) _
    have o_zv14 : Hid (Own W14 (lo_zv) (hi_zv) 9 (.slice ao_zv L_zv cap_zv) (ss Z.st.l)) := by show Own _ _ _ _ _ _; rw [← HW14.out]; exact Own.setRow o_zv13.out _ (by omega)
    have o_zp14 : Hid (Own W14 (lo_zp) (hi_zp) 5 (.slice ao_zp L_zp cap_zp) (bs Z.st.b)) := by show Own _ _ _ _ _ _; rw [← HW14.out]; exact Own.setRow o_zp13.out _ (by omega)
    have o_zo14 : Hid (Om W14 (lo_zo) (hi_zo) (.slice ao_zo L_zo cap_zo) ([(⟨3, 9, m.id, M, (m.st.l.length : Int), all.drop m.st.l.length⟩ : Ms)])) := by show Om _ _ _ _ _; rw [← HW14.out]; exact Om.setRow o_zo13.out _ (by omega)
    have r_z14 : Hid (W14.heap[W12.heap.size]? = some (.cells #[.int .i64 Z.id, .slice ao_zv L_zv cap_zv, .int .i64 Z.st.h.n, .string Z.st.h.r, .slice ao_zp L_zp cap_zp, .int .i64 Z.st.s, .int .i64 Z.b.n, .string Z.b.r] 32 (0, 0))) := by show _ = _; rw [← HW14.out]; exact setRow_heap _ _ _ _ _ (0, 0) r_z13.out
    rw [HW14.out]
    clear r_z13 c_z13 o_zv13 o_zp13 o_zo13
    have c_z14 := Ke.c r_z14
    rw [HW14.out] at hHeld
    have D14 : Hid (Below W11.heap.size W11 W14) := by show Below _ _ _; rw [← HW14.out]; exact D14a
    refine Ke.y 11 rfl (fun _ _ _ h => h) ?_
    try simp only [Act.put, pu1, pu2, pu3, pu4, pu5, pu6]
    refine wpAnyH_done (by kernel_rfl) ?_ _
    clear hHeld
    go_wp2_with fail
    go_meet
    exact ⟨W12.heap.size, rfl, by omega, (Array.getElem?_eq_some_iff.1 r_z14.out).1, D14.out, lo_zv, hi_zv, ao_zv, L_zv, cap_zv, lo_zp, hi_zp, ao_zp, L_zp, cap_zp, lo_zo, hi_zo, ao_zo, L_zo, cap_zo, rfl, by omega, by omega, by omega, by omega, by omega, by omega, by omega, by omega, by omega, by omega, by omega, by omega, o_zv14.out, o_zp14.out, o_zo14.out, by omega, by omega, by omega, r_z14.out⟩
   case tKx16 =>
    rintro g_z a1 W12 ⟨lo_zv, hi_zv, lo_zp, hi_zp, lo_zo, hi_zo, ao_zv, L_zv, cap_zv, ao_zp, L_zp, cap_zp, ao_zo, L_zo, cap_zo, rfl, D12, d1_zv, d2_zv, d3_zv, d1_zp, d2_zp, d3_zp, d1_zo, d2_zo, d3_zo, d_zv_zp, d_zv_zo, d_zp_zo, oo_zv, oo_zp, oo_zo, hx⟩ hHeld
    have z12 : W11.heap.size ≤ W12.heap.size := D12.size
    have B12 := Ke.b B11 D12
    have D12 : Hid (Below W11.heap.size W11 W12) := D12
    obtain ⟨hg1_z, hg2_z, hg3_z, hgf_zv, hgf_zp, hgf_zo⟩ := hx g_z rfl
    have r_z12 : Hid (W12.heap[g_z]? = some (.cells #[.int .i64 0, .slice none 0 0, .int .i64 0, .string ⟨#[]⟩, .slice none 0 0, .int .i64 0, .int .i64 0, .string ⟨#[]⟩] 32 (0, 0))) := hg3_z
    clear hg3_z
    have o_zv12 : Hid (Own W12 lo_zv hi_zv 9 (.slice ao_zv L_zv cap_zv) (ss Z.st.l)) := oo_zv
    clear oo_zv
    have o_zp12 : Hid (Own W12 lo_zp hi_zp 5 (.slice ao_zp L_zp cap_zp) (bs Z.st.b)) := oo_zp
    clear oo_zp
    have o_zo12 : Hid (Om W12 lo_zo hi_zo (.slice ao_zo L_zo cap_zo) ([(⟨3, 9, m.id, M, (m.st.l.length : Int), all.drop m.st.l.length⟩ : Ms)])) := oo_zo
    clear oo_zo
    clear hx
    try simp only [Act.put, pu1, pu2, pu3, pu4, pu5, pu6]
    have c_z12 := Ke.c r_z12
    refine Ke.y 6 rfl (fun _ _ _ h => h) ?_
    try simp only [Act.put, pu1, pu2, pu3, pu4, pu5, pu6]
    refine Ke.y 7 rfl (fun _ _ _ h => h) ?_
    try simp only [Act.put, pu1, pu2, pu3, pu4, pu5, pu6]
    refine Ke.y 8 rfl (fun _ _ _ h => h) ?_
    try simp only [Act.put, pu1, pu2, pu3, pu4, pu5, pu6]
    refine Ke.z 10 rfl (fun K hK => ?_)
    rw [if_pos (by rfl)]
    refine wp_store_row 32 _ _ rfl (g_z) (mq Z.id (.slice ao_zv L_zv cap_zv) Z.st.h (.slice ao_zp L_zp cap_zp) Z.st.s Z.b) rfl rfl 32 _ r_z12.out (sizeQ _ _ _ _ _ _) rfl (oneQ _ _ _ _ rfl rfl) ?_
    refine hK.out _ _ ⟨(Ke.w (by show g_o ≠ g_z; omega) hHeld.1), (Ke.w (by show ga ≠ g_z; omega) hHeld.2)⟩ (fun hHeld => ?_)
    clear hK K
    try simp only [Act.put, pu1, pu2, pu3, pu4, pu5, pu6]
    have D13a : Below W11.heap.size W11 (W12.setRow (g_z) (mq Z.id (.slice ao_zv L_zv cap_zv) Z.st.h (.slice ao_zp L_zp cap_zp) Z.st.s Z.b)) := below_setRow D12.out (by omega) _
    obtain ⟨W13, HW13⟩ : ∃ X, Hid (W12.setRow (g_z) (mq Z.id (.slice ao_zv L_zv cap_zv) Z.st.h (.slice ao_zp L_zp cap_zp) Z.st.s Z.b) = X) := ⟨_, rfl⟩
    have z13 : W12.heap.size ≤ W13.heap.size := by rw [← HW13.out]; simp
    have B13 : Hid (Below w.heap.size w W13) := by show Below _ _ _; rw [← HW13.out]; exact below_setRow B12.out (by have := B12.out.size; omega) _
    have o_zv13 : Hid (Own W13 (lo_zv) (hi_zv) 9 (.slice ao_zv L_zv cap_zv) (ss Z.st.l)) := by show Own _ _ _ _ _ _; rw [← HW13.out]; exact Own.setRow o_zv12.out _ (by omega)
    have o_zp13 : Hid (Own W13 (lo_zp) (hi_zp) 5 (.slice ao_zp L_zp cap_zp) (bs Z.st.b)) := by show Own _ _ _ _ _ _; rw [← HW13.out]; exact Own.setRow o_zp12.out _ (by omega)
    have o_zo13 : Hid (Om W13 (lo_zo) (hi_zo) (.slice ao_zo L_zo cap_zo) ([(⟨3, 9, m.id, M, (m.st.l.length : Int), all.drop m.st.l.length⟩ : Ms)])) := by show Om _ _ _ _ _; rw [← HW13.out]; exact Om.setRow o_zo12.out _ (by omega)
    have r_z13 : Hid (W13.heap[g_z]? = some (.cells #[.int .i64 Z.id, .slice ao_zv L_zv cap_zv, .int .i64 Z.st.h.n, .string Z.st.h.r, .slice ao_zp L_zp cap_zp, .int .i64 Z.st.s, .int .i64 Z.b.n, .string Z.b.r] 32 (0, 0))) := by show _ = _; rw [← HW13.out]; exact setRow_heap _ _ _ _ _ (0, 0) r_z12.out
    rw [HW13.out]
    clear r_z12 c_z12 o_zv12 o_zp12 o_zo12
    have c_z13 := Ke.c r_z13
    rw [HW13.out] at hHeld
    have D13 : Hid (Below W11.heap.size W11 W13) := by show Below _ _ _; rw [← HW13.out]; exact D13a
    refine Ke.y 11 rfl (fun _ _ _ h => h) ?_
    try simp only [Act.put, pu1, pu2, pu3, pu4, pu5, pu6]
    refine wpAnyH_done (by kernel_rfl) ?_ _
    clear hHeld
    go_wp2_with fail
    go_meet
    exact ⟨g_z, rfl, by omega, (Array.getElem?_eq_some_iff.1 r_z13.out).1, D13.out, lo_zv, hi_zv, ao_zv, L_zv, cap_zv, lo_zp, hi_zp, ao_zp, L_zp, cap_zp, lo_zo, hi_zo, ao_zo, L_zo, cap_zo, rfl, by omega, by omega, by omega, by omega, by omega, by omega, by omega, by omega, by omega, by omega, by omega, by omega, o_zv13.out, o_zp13.out, o_zo13.out, by omega, by omega, by omega, r_z13.out⟩
   case h0x16 =>
    exact ⟨rfl, Below.drew (Below.refl _ _), fun g hg => by cases hg⟩
  case rest =>
  obtain ⟨g_z, rfl, hg_z, hg2_z, b12, lo_zv, hi_zv, ao_zv, L_zv, cap_zv, lo_zp, hi_zp, ao_zp, L_zp, cap_zp, lo_zo, hi_zo, ao_zo, L_zo, cap_zo, rfl, d1_zv, d2_zv, d3_zv, d1_zp, d2_zp, d3_zp, d1_zo, d2_zo, d3_zo, d_zv_zp, d_zv_zo, d_zp_zo, oo_zv, oo_zp, oo_zo, hgf_zv, hgf_zp, hgf_zo, r_z12⟩ := hcut
  revert hg2_z b12 d3_zv d3_zp d3_zo oo_zv oo_zp oo_zo r_z12
  generalize wc = W12
  intro hg2_z b12 d3_zv d3_zp d3_zo oo_zv oo_zp oo_zo r_z12
  have r_z12 : Hid (W12.heap[g_z]? = some (.cells #[.int .i64 Z.id, .slice ao_zv L_zv cap_zv, .int .i64 Z.st.h.n, .string Z.st.h.r, .slice ao_zp L_zp cap_zp, .int .i64 Z.st.s, .int .i64 Z.b.n, .string Z.b.r] 32 (0, 0))) := r_z12
  have o_zv12 : Hid (Own W12 lo_zv hi_zv 9 (.slice ao_zv L_zv cap_zv) (ss Z.st.l)) := oo_zv
  clear oo_zv
  have o_zp12 : Hid (Own W12 lo_zp hi_zp 5 (.slice ao_zp L_zp cap_zp) (bs Z.st.b)) := oo_zp
  clear oo_zp
  have o_zo12 : Hid (Om W12 lo_zo hi_zo (.slice ao_zo L_zo cap_zo) ([(⟨3, 9, m.id, M, (m.st.l.length : Int), all.drop m.st.l.length⟩ : Ms)])) := oo_zo
  clear oo_zo
  have z12 := b12.size
  have B12 := Ke.b B11 b12
  have r_m12 := Ke.r r_m11 b12
  have r_o12 := Ke.r r_o11 b12
  have r_x12 := Ke.r r_x11 b12
  have r_ga12 := Ke.r r_ga11 b12
  have c_m12 := Ke.c r_m12
  have c_o12 := Ke.c r_o12
  have c_x12 := Ke.c r_x12
  have c_ga12 := Ke.c r_ga12
  have c_z12 := Ke.c r_z12
  clear r_m11 c_m11 r_o11 c_o11 r_x11 c_x11 r_ga11 c_ga11
  have f_v12 := Ke.h (Sl.later f_v11.out b12)
  have f_u12 := Ke.h (Sl.later f_u11.out b12)
  have f_t12 := Ke.h (Sh.later f_t11.out b12)
  have f_a12 := Ke.h (Sl.later f_a11.out b12)
  have f_f12 := Ke.h (Sl.later f_f11.out b12)
  have f_fp12 := Ke.h (Sl.later f_fp11.out b12)
  have f_ua12 := Ke.h (Sl.later f_ua11.out b12)
  have f_xv912 := Ke.h (Sl.later f_xv911.out b12)
  have f_xp912 := Ke.h (Sl.later f_xp911.out b12)
  clear f_v11 f_u11 f_t11 f_a11 f_f11 f_fp11 f_ua11 f_xv911 f_xp911
  clear r_z12 c_z12
  clear o_zv12
  clear o_zp12
  clear r_ga12 c_ga12
  clear f_ua12
  clear q7
  obtain ⟨gr, ur, rfl, rfl, rfl, hr_gr, ho_ur⟩ := Om.get1 o_zo12.out
  clear o_zo12
  have r_gr12 : Hid (W12.heap[gr]? = some (.cells #[.int .i64 3, .int .i64 9, .int .i64 m.id, .int .i64 M.n, .string M.r, .int .i64 (m.st.l.length : Int), ur] 35 (0, 0))) := hr_gr
  have hgb_gr : gr < W12.heap.size := (Array.getElem?_eq_some_iff.1 hr_gr).1
  clear hr_gr
  have c_gr12 := Ke.c r_gr12
  have f_ur12 : Hid (Sl W12 ur (ss (all.drop m.st.l.length))) := ho_ur.sl
  clear ho_ur
  have HDZ : Hid (∀ s ∈ all.drop m.st.l.length, s.size ≤ 10000000000) := fun s h9 => HAZ.out s (List.mem_of_mem_drop h9)
  have HDT : Hid (Puts.tot (all.drop m.st.l.length) ≤ 100000000000) := Nat.le_trans (tot_drop14 all _) HAZ2.out
  have hdl : (all.drop m.st.l.length).length ≤ 9 := by rw [List.length_drop]; omega
  have hsm := hear_small (m := (⟨m.id, m.st, M⟩ : Mr)) (t := t) (w := (⟨3, 9, m.id, M, (m.st.l.length : Int), all.drop m.st.l.length⟩ : Ms)) HBY.out
  obtain ⟨Yf, S3, hY⟩ : ∃ X S, hear (⟨m.id, m.st, M⟩ : Mr) t (⟨3, 9, m.id, M, (m.st.l.length : Int), all.drop m.st.l.length⟩ : Ms) = (X, S) := ⟨_, _, rfl⟩
  have q8 : ∀ W v1 v2 v3 v4, Below w.heap.size w W → Sl W v1 (ss (⟨m.id, m.st, M⟩ : Mr).st.l) → Sl W v2 (bs (⟨m.id, m.st, M⟩ : Mr).st.b) → Sh W v3 t → Sl W v4 (ss (⟨3, 9, m.id, M, (m.st.l.length : Int), all.drop m.st.l.length⟩ : Ms).x) → _ := fun W v1 v2 v3 v4 hB h1 h2 h3 h4 => hear_impl W v1 v2 v3 v4 (⟨m.id, m.st, M⟩ : Mr) t (⟨3, 9, m.id, M, (m.st.l.length : Int), all.drop m.st.l.length⟩ : Ms) (HG.out.later hB) (NoC.later HNC.out hB) (HF.out.later hB) (by (try simp only); omega) (by (try simp only); omega) h1 h2 HBY.out h3 (by (try simp only); omega) (by (try simp only); omega) (by omega) HZ.out h4 (by simp only; omega) HDZ.out HDT.out (by (try simp only); omega)
  simp only [hY] at q8 p3 p4 p5 hsm
  clear hY
  obtain ⟨_, _, y3, y4, _⟩ := hsm
  obtain ⟨yi, ⟨yl, yh, yb, ys⟩, yg⟩ := Yf
  simp only at q8 p3 p4 p5 y3 y4
  have p3 := p3.symm
  have p4 := p4.symm
  subst p3 p4
  have HYB : Hid (Byt yb) := y3
  have hyl : yb.length ≤ 100000 := by omega
  clear y3 y4 hdl
  have q9 : ∀ W v1 v2 v3, Below w.heap.size w W → Sl W v1 (ss all) → Sl W v2 (bs yb) → Sh W v3 t → _ := fun W v1 v2 v3 hB h1 h2 h3 => mirrorok_impl W v1 v2 v3 (⟨yi, ⟨all, yh, yb, ys⟩, M⟩ : Mr) t (HG.out.later hB) (NoC.later HNC.out hB) (by (try simp only); omega) h1 h2 HYB.out h3 (by (try simp only); omega) (by (try simp only); omega) (by omega) HAZ.out
  simp only [p5] at q9
  clear p5
  go_upto_region 19 with fail
  go_cut [14, 15] (fun s14 s15 wx => ∃ g : Nat, s14 = (.pointer (some ⟨g, 0, none⟩)) ∧ W12.heap.size ≤ g ∧ g < wx.heap.size ∧ Below W12.heap.size W12 wx ∧ ∃ lo_yv hi_yv ao_yv L_yv cap_yv lo_yp hi_yp ao_yp L_yp cap_yp lo_yo hi_yo ao_yo L_yo cap_yo, s15 = .slice ao_yo L_yo cap_yo ∧ W12.heap.size ≤ lo_yv ∧ lo_yv ≤ hi_yv ∧ hi_yv ≤ wx.heap.size ∧ W12.heap.size ≤ lo_yp ∧ lo_yp ≤ hi_yp ∧ hi_yp ≤ wx.heap.size ∧ W12.heap.size ≤ lo_yo ∧ lo_yo ≤ hi_yo ∧ hi_yo ≤ wx.heap.size ∧ (hi_yv ≤ lo_yp ∨ hi_yp ≤ lo_yv) ∧ (hi_yv ≤ lo_yo ∨ hi_yo ≤ lo_yv) ∧ (hi_yp ≤ lo_yo ∨ hi_yo ≤ lo_yp) ∧ Own wx lo_yv hi_yv 9 (.slice ao_yv L_yv cap_yv) (ss all) ∧ Own wx lo_yp hi_yp 5 (.slice ao_yp L_yp cap_yp) (bs yb) ∧ Om wx lo_yo hi_yo (.slice ao_yo L_yo cap_yo) (S3) ∧ (g < lo_yv ∨ hi_yv ≤ g) ∧ (g < lo_yp ∨ hi_yp ≤ g) ∧ (g < lo_yo ∨ hi_yo ≤ g) ∧ wx.heap[g]? = some (.cells #[.int .i64 yi, .slice ao_yv L_yv cap_yv, .int .i64 yh.n, .string yh.r, .slice ao_yp L_yp cap_yp, .int .i64 ys, .int .i64 M.n, .string M.r] 32 (0, 0)))
  case first =>
   have D12 : Hid (Below W12.heap.size W12 W12) := Below.refl _ _
   refine wp_region_held_drew (S := fun w' => (∀ j, w'.cell? ⟨g_x, j, none⟩ = #[.int .i64 m.id, .slice ao_xv L_xv cap_xv, .int .i64 m.st.h.n, .string m.st.h.r, .slice ao_xp L_xp cap_xp, .int .i64 m.st.s, .int .i64 M.n, .string M.r][j]?) ∧ (∀ j, w'.cell? ⟨gr, j, none⟩ = #[.int .i64 3, .int .i64 9, .int .i64 m.id, .int .i64 M.n, .string M.r, .int .i64 (m.st.l.length : Int), ur][j]?)) (by kernel_rfl) ⟨c_x12, c_gr12⟩ (fun hHeld => ?_)
   refine Ke.y 0 rfl (fun _ _ _ h => h) ?_
   try simp only [Act.put, pu1, pu2, pu3, pu4, pu5, pu6]
   refine Ke.y 1 rfl (fun _ _ _ h => h) ?_
   try simp only [Act.put, pu1, pu2, pu3, pu4, pu5, pu6]
   refine Ke.y 2 rfl (fun _ _ _ h => h) ?_
   try simp only [Act.put, pu1, pu2, pu3, pu4, pu5, pu6]
   refine Ke.y 3 rfl (fun _ _ _ h => h) ?_
   try simp only [Act.put, pu1, pu2, pu3, pu4, pu5, pu6]
   refine Ke.y 4 rfl (fun _ _ _ h => h) ?_
   try simp only [Act.put, pu1, pu2, pu3, pu4, pu5, pu6]
   refine chain1 5 9 (fun aA xA aB wB => aB = aA.put (some 14) xA ∧ Below W12.heap.size W12 wB ∧ (∀ g : Nat, xA = (.pointer (some ⟨g, 0, none⟩)) → W12.heap.size ≤ g ∧ g < wB.heap.size ∧ wB.heap[g]? = some (.cells #[.int .i64 0, .slice none 0 0, .int .i64 0, .string ⟨#[]⟩, .slice none 0 0, .int .i64 0, .int .i64 0, .string ⟨#[]⟩] 32 (0, 0)))) (fun aA xA aB wB => ∃  (lo_yv hi_yv lo_yp hi_yp lo_yo hi_yo : Nat) (ao_yv : Option Addr) (L_yv cap_yv : Nat) (ao_yp : Option Addr) (L_yp cap_yp : Nat) (ao_yo : Option Addr) (L_yo cap_yo : Nat), aB = (aA.put (some 108) (.tuple #[.agg #[.int .i64 yi, .slice ao_yv L_yv cap_yv, .int .i64 yh.n, .string yh.r, .slice ao_yp L_yp cap_yp, .int .i64 ys, .int .i64 M.n, .string M.r], .slice ao_yo L_yo cap_yo])).put (some 14) xA ∧ Below W12.heap.size W12 wB ∧ W12.heap.size ≤ lo_yv ∧ lo_yv ≤ hi_yv ∧ hi_yv ≤ wB.heap.size ∧ W12.heap.size ≤ lo_yp ∧ lo_yp ≤ hi_yp ∧ hi_yp ≤ wB.heap.size ∧ W12.heap.size ≤ lo_yo ∧ lo_yo ≤ hi_yo ∧ hi_yo ≤ wB.heap.size ∧ (hi_yv ≤ lo_yp ∨ hi_yp ≤ lo_yv) ∧ (hi_yv ≤ lo_yo ∨ hi_yo ≤ lo_yv) ∧ (hi_yp ≤ lo_yo ∨ hi_yo ≤ lo_yp) ∧ Own wB lo_yv hi_yv 9 (.slice ao_yv L_yv cap_yv) (ss all) ∧ Own wB lo_yp hi_yp 5 (.slice ao_yp L_yp cap_yp) (bs yb) ∧ Om wB lo_yo hi_yo (.slice ao_yo L_yo cap_yo) (S3) ∧ (∀ g : Nat, xA = (.pointer (some ⟨g, 0, none⟩)) → W12.heap.size ≤ g ∧ g < wB.heap.size ∧ wB.heap[g]? = some (.cells #[.int .i64 0, .slice none 0 0, .int .i64 0, .string ⟨#[]⟩, .slice none 0 0, .int .i64 0, .int .i64 0, .string ⟨#[]⟩] 32 (0, 0)) ∧ (g < lo_yv ∨ hi_yv ≤ g) ∧ (g < lo_yp ∨ hi_yp ≤ g) ∧ (g < lo_yo ∨ hi_yo ≤ g))) (by decide) (by kernel_rfl) (by kernel_rfl) ?hC0x19 ?hA0x19 ?tJx19 ?tKx19 ?h0x19 hHeld
   case hC0x19 =>
    rintro xA a1 wq ⟨rfl, hD, hx⟩ hHeld
    have hBw : Below w.heap.size w wq := B12.out.trans (hD.mono B12.out.size)
    refine wpOp_weak rfl (fun K hK => ?_)
    try simp only [Act.put, pu1, pu2, pu3, pu4, pu5, pu6]
    go_simp
    refine (q8 wq _ _ _ _ hBw (f_xv912.out.later hD) (f_xp912.out.later hD) (f_t12.out.later hD) (f_ur12.out.later hD)).mono ?_
    rintro e w2 ⟨v_yv, v_yp, v_yo, mid, rfl, e8, e9, p9, p5, pm, b2⟩
    obtain ⟨lo_yv, hi_yv, lo_yp, hi_yp, e1, e2, e3, e4, e5, e6, e7, oo_yv, oo_yp⟩ := pairN p9 p5 e8
    obtain ⟨ao_yv, L_yv, cap_yv, rfl, _, _⟩ := oo_yv.form
    obtain ⟨ao_yp, L_yp, cap_yp, rfl, _, _⟩ := oo_yp.form
    obtain ⟨ao_yo, L_yo, cap_yo, rfl, hL8, hL9⟩ := pm.form
    clear hL8 hL9
    obtain ⟨lo_yo, hi_yo, e10, e11, oo_yo⟩ : ∃ lo hi, lo = mid ∧ hi = w2.heap.size ∧ Om w2 lo hi (.slice ao_yo L_yo cap_yo) S3 := ⟨_, _, rfl, rfl, pm⟩
    have hzq := b2.size
    have hzd := hD.size
    refine hK.out _ _ ⟨⟨(Ke.k (W := wq) hHeld.1 b2), (Ke.k (W := wq) hHeld.2 b2)⟩, lo_yv, hi_yv, lo_yp, hi_yp, lo_yo, hi_yo, ao_yv, L_yv, cap_yv, ao_yp, L_yp, cap_yp, ao_yo, L_yo, cap_yo, rfl, hD.trans (b2.mono hD.size), by omega, by omega, by omega, by omega, by omega, by omega, by omega, by omega, by omega, by omega, by omega, by omega, oo_yv, oo_yp, oo_yo, fun g hg => ?_⟩
    obtain ⟨g1, g2, g3⟩ := hx g hg
    exact ⟨g1, by omega, rowKeep g3 b2, by omega, by omega, by omega⟩
   case hA0x19 =>
    rintro a1 wq ⟨rfl, hD, hx⟩ hHeld
    refine wpOp_weak rfl (fun K hK => ?_)
    try simp only [Act.put, pu1, pu2, pu3, pu4, pu5, pu6]
    go_simp
    refine hK.out _ _ ⟨⟨(Ke.k (W := wq) hHeld.1 ((Below.refl _ _).alloc (Nat.le_refl _) _)), (Ke.k (W := wq) hHeld.2 ((Below.refl _ _).alloc (Nat.le_refl _) _))⟩, wq.heap.size, rfl, hD.alloc hD.size _, fun g hg => ?_⟩
    obtain rfl : wq.heap.size = g := by simpa using hg
    exact ⟨hD.size, by simp, heap_alloc_new wq _⟩
   case tJx19 =>
    rintro a1 W13 ⟨lo_yv, hi_yv, lo_yp, hi_yp, lo_yo, hi_yo, ao_yv, L_yv, cap_yv, ao_yp, L_yp, cap_yp, ao_yo, L_yo, cap_yo, rfl, D13, d1_yv, d2_yv, d3_yv, d1_yp, d2_yp, d3_yp, d1_yo, d2_yo, d3_yo, d_yv_yp, d_yv_yo, d_yp_yo, oo_yv, oo_yp, oo_yo, hx⟩ hHeld
    have z13 : W12.heap.size ≤ W13.heap.size := D13.size
    have B13 := Ke.b B12 D13
    have D13 : Hid (Below W12.heap.size W12 W13) := D13
    have o_yv13 : Hid (Own W13 lo_yv hi_yv 9 (.slice ao_yv L_yv cap_yv) (ss all)) := oo_yv
    clear oo_yv
    have o_yp13 : Hid (Own W13 lo_yp hi_yp 5 (.slice ao_yp L_yp cap_yp) (bs yb)) := oo_yp
    clear oo_yp
    have o_yo13 : Hid (Om W13 lo_yo hi_yo (.slice ao_yo L_yo cap_yo) (S3)) := oo_yo
    clear oo_yo
    clear hx
    try simp only [Act.put, pu1, pu2, pu3, pu4, pu5, pu6]
    refine Ke.y 6 rfl (fun _ _ _ h => h) ?_
    try simp only [Act.put, pu1, pu2, pu3, pu4, pu5, pu6]
    refine Ke.y 7 rfl (fun _ _ _ h => h) ?_
    try simp only [Act.put, pu1, pu2, pu3, pu4, pu5, pu6]
    refine Ke.y 8 rfl (fun _ _ _ h => h) ?_
    try simp only [Act.put, pu1, pu2, pu3, pu4, pu5, pu6]
    refine Ke.z 9 rfl (fun K hK => ?_)
    go_simp
    refine hK.out _ _ ⟨(Ke.k (W := W13) hHeld.1 ((Below.refl _ _).alloc (Nat.le_refl _) _)), (Ke.k (W := W13) hHeld.2 ((Below.refl _ _).alloc (Nat.le_refl _) _))⟩ (fun hHeld => ?_)
    clear hK K
    try simp only [Act.put, pu1, pu2, pu3, pu4, pu5, pu6]
    obtain ⟨W14, HW14, b14, y14, r_y14⟩ : ∃ X, Hid ((W13.alloc (.cells #[.int .i64 0, .slice none 0 0, .int .i64 0, .string ⟨#[]⟩, .slice none 0 0, .int .i64 0, .int .i64 0, .string ⟨#[]⟩] 32)) = X) ∧ Below W13.heap.size W13 X ∧ W13.heap.size + 1 ≤ X.heap.size ∧ Hid (X.heap[W13.heap.size]? = some (.cells #[.int .i64 0, .slice none 0 0, .int .i64 0, .string ⟨#[]⟩, .slice none 0 0, .int .i64 0, .int .i64 0, .string ⟨#[]⟩] 32 (0, 0))) := ⟨_, rfl, ((Below.refl _ _).alloc (Nat.le_refl _) _), (by show _ ≤ (W13.heap.push _).size; simp), heap_alloc_new W13 _⟩
    have HHW14 := HW14.out
    rw [HHW14] at hHeld ⊢
    clear HHW14
    have z14 := b14.size
    have B14 := Ke.b B13 b14
    have o_yv14 := Ke.o o_yv13 b14
    have o_yp14 := Ke.o o_yp13 b14
    have o_yo14 := Ke.h (Om.later o_yo13.out b14 (by omega))
    have c_y14 := Ke.c r_y14
    clear o_yv13 o_yp13 o_yo13
    have D14 := Ke.b D13 b14
    refine Ke.z 10 rfl (fun K hK => ?_)
    rw [if_pos (by rfl)]
    refine wp_store_row 32 _ _ rfl (W13.heap.size) (mq yi (.slice ao_yv L_yv cap_yv) yh (.slice ao_yp L_yp cap_yp) ys M) rfl rfl 32 _ r_y14.out (sizeQ _ _ _ _ _ _) rfl (oneQ _ _ _ _ rfl rfl) ?_
    refine hK.out _ _ ⟨(Ke.w (by show g_x ≠ W13.heap.size; omega) hHeld.1), (Ke.w (by show gr ≠ W13.heap.size; omega) hHeld.2)⟩ (fun hHeld => ?_)
    clear hK K
    try simp only [Act.put, pu1, pu2, pu3, pu4, pu5, pu6]
    have D15a : Below W12.heap.size W12 (W14.setRow (W13.heap.size) (mq yi (.slice ao_yv L_yv cap_yv) yh (.slice ao_yp L_yp cap_yp) ys M)) := below_setRow D14.out (by omega) _
    obtain ⟨W15, HW15⟩ : ∃ X, Hid (W14.setRow (W13.heap.size) (mq yi (.slice ao_yv L_yv cap_yv) yh (.slice ao_yp L_yp cap_yp) ys M) = X) := ⟨_, rfl⟩
    have z15 : W14.heap.size ≤ W15.heap.size := by rw [← HW15.out]; simp
    have B15 : Hid (Below w.heap.size w W15) := by show Below _ _ _; rw [← HW15.out]; exact below_setRow B14.out (by have := B14.out.size; omega) _
    have o_yv15 : Hid (Own W15 (lo_yv) (hi_yv) 9 (.slice ao_yv L_yv cap_yv) (ss all)) := by show Own _ _ _ _ _ _; rw [← HW15.out]; exact Own.setRow o_yv14.out _ (by omega)
    have o_yp15 : Hid (Own W15 (lo_yp) (hi_yp) 5 (.slice ao_yp L_yp cap_yp) (bs yb)) := by show Own _ _ _ _ _ _; rw [← HW15.out]; exact Own.setRow o_yp14.out _ (by omega)
    have o_yo15 : Hid (Om W15 (lo_yo) (hi_yo) (.slice ao_yo L_yo cap_yo) (S3)) := by show Om _ _ _ _ _; rw [← HW15.out]; exact Om.setRow o_yo14.out _ (by omega)
    have r_y15 : Hid (W15.heap[W13.heap.size]? = some (.cells #[.int .i64 yi, .slice ao_yv L_yv cap_yv, .int .i64 yh.n, .string yh.r, .slice ao_yp L_yp cap_yp, .int .i64 ys, .int .i64 M.n, .string M.r] 32 (0, 0))) := by show _ = _; rw [← HW15.out]; exact setRow_heap _ _ _ _ _ (0, 0) r_y14.out
    rw [HW15.out]
    clear r_y14 c_y14 o_yv14 o_yp14 o_yo14
    have c_y15 := Ke.c r_y15
    rw [HW15.out] at hHeld
    have D15 : Hid (Below W12.heap.size W12 W15) := by show Below _ _ _; rw [← HW15.out]; exact D15a
    refine Ke.y 11 rfl (fun _ _ _ h => h) ?_
    try simp only [Act.put, pu1, pu2, pu3, pu4, pu5, pu6]
    refine wpAnyH_done (by kernel_rfl) ?_ _
    clear hHeld
    go_wp2_with fail
    go_meet
    exact ⟨W13.heap.size, rfl, by omega, (Array.getElem?_eq_some_iff.1 r_y15.out).1, D15.out, lo_yv, hi_yv, ao_yv, L_yv, cap_yv, lo_yp, hi_yp, ao_yp, L_yp, cap_yp, lo_yo, hi_yo, ao_yo, L_yo, cap_yo, rfl, by omega, by omega, by omega, by omega, by omega, by omega, by omega, by omega, by omega, by omega, by omega, by omega, o_yv15.out, o_yp15.out, o_yo15.out, by omega, by omega, by omega, r_y15.out⟩
   case tKx19 =>
    rintro g_y a1 W13 ⟨lo_yv, hi_yv, lo_yp, hi_yp, lo_yo, hi_yo, ao_yv, L_yv, cap_yv, ao_yp, L_yp, cap_yp, ao_yo, L_yo, cap_yo, rfl, D13, d1_yv, d2_yv, d3_yv, d1_yp, d2_yp, d3_yp, d1_yo, d2_yo, d3_yo, d_yv_yp, d_yv_yo, d_yp_yo, oo_yv, oo_yp, oo_yo, hx⟩ hHeld
    have z13 : W12.heap.size ≤ W13.heap.size := D13.size
    have B13 := Ke.b B12 D13
    have D13 : Hid (Below W12.heap.size W12 W13) := D13
    obtain ⟨hg1_y, hg2_y, hg3_y, hgf_yv, hgf_yp, hgf_yo⟩ := hx g_y rfl
    have r_y13 : Hid (W13.heap[g_y]? = some (.cells #[.int .i64 0, .slice none 0 0, .int .i64 0, .string ⟨#[]⟩, .slice none 0 0, .int .i64 0, .int .i64 0, .string ⟨#[]⟩] 32 (0, 0))) := hg3_y
    clear hg3_y
    have o_yv13 : Hid (Own W13 lo_yv hi_yv 9 (.slice ao_yv L_yv cap_yv) (ss all)) := oo_yv
    clear oo_yv
    have o_yp13 : Hid (Own W13 lo_yp hi_yp 5 (.slice ao_yp L_yp cap_yp) (bs yb)) := oo_yp
    clear oo_yp
    have o_yo13 : Hid (Om W13 lo_yo hi_yo (.slice ao_yo L_yo cap_yo) (S3)) := oo_yo
    clear oo_yo
    clear hx
    try simp only [Act.put, pu1, pu2, pu3, pu4, pu5, pu6]
    have c_y13 := Ke.c r_y13
    refine Ke.y 6 rfl (fun _ _ _ h => h) ?_
    try simp only [Act.put, pu1, pu2, pu3, pu4, pu5, pu6]
    refine Ke.y 7 rfl (fun _ _ _ h => h) ?_
    try simp only [Act.put, pu1, pu2, pu3, pu4, pu5, pu6]
    refine Ke.y 8 rfl (fun _ _ _ h => h) ?_
    try simp only [Act.put, pu1, pu2, pu3, pu4, pu5, pu6]
    refine Ke.z 10 rfl (fun K hK => ?_)
    rw [if_pos (by rfl)]
    refine wp_store_row 32 _ _ rfl (g_y) (mq yi (.slice ao_yv L_yv cap_yv) yh (.slice ao_yp L_yp cap_yp) ys M) rfl rfl 32 _ r_y13.out (sizeQ _ _ _ _ _ _) rfl (oneQ _ _ _ _ rfl rfl) ?_
    refine hK.out _ _ ⟨(Ke.w (by show g_x ≠ g_y; omega) hHeld.1), (Ke.w (by show gr ≠ g_y; omega) hHeld.2)⟩ (fun hHeld => ?_)
    clear hK K
    try simp only [Act.put, pu1, pu2, pu3, pu4, pu5, pu6]
    have D14a : Below W12.heap.size W12 (W13.setRow (g_y) (mq yi (.slice ao_yv L_yv cap_yv) yh (.slice ao_yp L_yp cap_yp) ys M)) := below_setRow D13.out (by omega) _
    obtain ⟨W14, HW14⟩ : ∃ X, Hid (W13.setRow (g_y) (mq yi (.slice ao_yv L_yv cap_yv) yh (.slice ao_yp L_yp cap_yp) ys M) = X) := ⟨_, rfl⟩
    have z14 : W13.heap.size ≤ W14.heap.size := by rw [← HW14.out]; simp
    have B14 : Hid (Below w.heap.size w W14) := by show Below _ _ _; rw [← HW14.out]; exact below_setRow B13.out (by have := B13.out.size; omega) _
    have o_yv14 : Hid (Own W14 (lo_yv) (hi_yv) 9 (.slice ao_yv L_yv cap_yv) (ss all)) := by show Own _ _ _ _ _ _; rw [← HW14.out]; exact Own.setRow o_yv13.out _ (by omega)
    have o_yp14 : Hid (Own W14 (lo_yp) (hi_yp) 5 (.slice ao_yp L_yp cap_yp) (bs yb)) := by show Own _ _ _ _ _ _; rw [← HW14.out]; exact Own.setRow o_yp13.out _ (by omega)
    have o_yo14 : Hid (Om W14 (lo_yo) (hi_yo) (.slice ao_yo L_yo cap_yo) (S3)) := by show Om _ _ _ _ _; rw [← HW14.out]; exact Om.setRow o_yo13.out _ (by omega)
    have r_y14 : Hid (W14.heap[g_y]? = some (.cells #[.int .i64 yi, .slice ao_yv L_yv cap_yv, .int .i64 yh.n, .string yh.r, .slice ao_yp L_yp cap_yp, .int .i64 ys, .int .i64 M.n, .string M.r] 32 (0, 0))) := by show _ = _; rw [← HW14.out]; exact setRow_heap _ _ _ _ _ (0, 0) r_y13.out
    rw [HW14.out]
    clear r_y13 c_y13 o_yv13 o_yp13 o_yo13
    have c_y14 := Ke.c r_y14
    rw [HW14.out] at hHeld
    have D14 : Hid (Below W12.heap.size W12 W14) := by show Below _ _ _; rw [← HW14.out]; exact D14a
    refine Ke.y 11 rfl (fun _ _ _ h => h) ?_
    try simp only [Act.put, pu1, pu2, pu3, pu4, pu5, pu6]
    refine wpAnyH_done (by kernel_rfl) ?_ _
    clear hHeld
    go_wp2_with fail
    go_meet
    exact ⟨g_y, rfl, by omega, (Array.getElem?_eq_some_iff.1 r_y14.out).1, D14.out, lo_yv, hi_yv, ao_yv, L_yv, cap_yv, lo_yp, hi_yp, ao_yp, L_yp, cap_yp, lo_yo, hi_yo, ao_yo, L_yo, cap_yo, rfl, by omega, by omega, by omega, by omega, by omega, by omega, by omega, by omega, by omega, by omega, by omega, by omega, o_yv14.out, o_yp14.out, o_yo14.out, by omega, by omega, by omega, r_y14.out⟩
   case h0x19 =>
    exact ⟨rfl, Below.drew (Below.refl _ _), fun g hg => by cases hg⟩
  case rest =>
  obtain ⟨g_y, rfl, hg_y, hg2_y, b13, lo_yv, hi_yv, ao_yv, L_yv, cap_yv, lo_yp, hi_yp, ao_yp, L_yp, cap_yp, lo_yo, hi_yo, ao_yo, L_yo, cap_yo, rfl, d1_yv, d2_yv, d3_yv, d1_yp, d2_yp, d3_yp, d1_yo, d2_yo, d3_yo, d_yv_yp, d_yv_yo, d_yp_yo, oo_yv, oo_yp, oo_yo, hgf_yv, hgf_yp, hgf_yo, r_y13⟩ := hcut
  revert hg2_y b13 d3_yv d3_yp d3_yo oo_yv oo_yp oo_yo r_y13
  generalize wc = W13
  intro hg2_y b13 d3_yv d3_yp d3_yo oo_yv oo_yp oo_yo r_y13
  have r_y13 : Hid (W13.heap[g_y]? = some (.cells #[.int .i64 yi, .slice ao_yv L_yv cap_yv, .int .i64 yh.n, .string yh.r, .slice ao_yp L_yp cap_yp, .int .i64 ys, .int .i64 M.n, .string M.r] 32 (0, 0))) := r_y13
  have o_yv13 : Hid (Own W13 lo_yv hi_yv 9 (.slice ao_yv L_yv cap_yv) (ss all)) := oo_yv
  clear oo_yv
  have o_yp13 : Hid (Own W13 lo_yp hi_yp 5 (.slice ao_yp L_yp cap_yp) (bs yb)) := oo_yp
  clear oo_yp
  have o_yo13 : Hid (Om W13 lo_yo hi_yo (.slice ao_yo L_yo cap_yo) (S3)) := oo_yo
  clear oo_yo
  have z13 := b13.size
  have B13 := Ke.b B12 b13
  have r_m13 := Ke.r r_m12 b13
  have r_o13 := Ke.r r_o12 b13
  have r_x13 := Ke.r r_x12 b13
  have r_gr13 := Ke.r r_gr12 b13
  have c_m13 := Ke.c r_m13
  have c_o13 := Ke.c r_o13
  have c_x13 := Ke.c r_x13
  have c_gr13 := Ke.c r_gr13
  have c_y13 := Ke.c r_y13
  clear r_m12 c_m12 r_o12 c_o12 r_x12 c_x12 r_gr12 c_gr12
  have f_v13 := Ke.h (Sl.later f_v12.out b13)
  have f_u13 := Ke.h (Sl.later f_u12.out b13)
  have f_t13 := Ke.h (Sh.later f_t12.out b13)
  have f_a13 := Ke.h (Sl.later f_a12.out b13)
  have f_f13 := Ke.h (Sl.later f_f12.out b13)
  have f_fp13 := Ke.h (Sl.later f_fp12.out b13)
  have f_xv913 := Ke.h (Sl.later f_xv912.out b13)
  have f_xp913 := Ke.h (Sl.later f_xp912.out b13)
  have f_ur13 := Ke.h (Sl.later f_ur12.out b13)
  clear f_v12 f_u12 f_t12 f_a12 f_f12 f_fp12 f_xv912 f_xp912 f_ur12
  clear q8
  clear r_gr13 c_gr13
  clear r_x13 c_x13
  clear o_yo13
  clear f_ur13
  have ee : ∀ W, _ := fun W => eqlH W M M
  have en : ∀ W, _ := fun W => neqH W M M
  have hhh : eqH M M = true := (eqH_iff _ _).2 rfl
  simp only [hhh, Bool.not_true] at ee en
  have gg : ∀ W op y z xs ys, _ := fun W op y z xs ys => grdH W op y z xs ys
  clear hhh
  go_wp2_with fail
  refine (Draw.same_true W13 _ _ all o_yv13.out.sl f_a13.out (by omega)).mono ?_
  rintro e W14 ⟨rfl, h14, _⟩
  have b14 : Below W13.heap.size W13 W14 := h14 _
  clear h14
  have z14 := b14.size
  have B14 := Ke.b B13 b14
  have r_m14 := Ke.r r_m13 b14
  have r_o14 := Ke.r r_o13 b14
  have r_y14 := Ke.r r_y13 b14
  have o_yv14 := Ke.o o_yv13 b14
  have o_yp14 := Ke.o o_yp13 b14
  have c_m14 := Ke.c r_m14
  have c_o14 := Ke.c r_o14
  have c_y14 := Ke.c r_y14
  clear r_m13 c_m13 r_o13 c_o13 r_y13 c_y13 o_yv13 o_yp13
  have f_v14 := Ke.h (Sl.later f_v13.out b14)
  have f_u14 := Ke.h (Sl.later f_u13.out b14)
  have f_t14 := Ke.h (Sh.later f_t13.out b14)
  have f_a14 := Ke.h (Sl.later f_a13.out b14)
  have f_f14 := Ke.h (Sl.later f_f13.out b14)
  have f_fp14 := Ke.h (Sl.later f_fp13.out b14)
  have f_xv914 := Ke.h (Sl.later f_xv913.out b14)
  have f_xp914 := Ke.h (Sl.later f_xp913.out b14)
  clear f_v13 f_u13 f_t13 f_a13 f_f13 f_fp13 f_xv913 f_xp913
  go_wp2_with fail
  refine (q9 W14 _ _ _ B14.out o_yv14.out.sl o_yp14.out.sl f_t14.out).mono ?_
  rintro e W15 ⟨rfl, b15⟩
  have z15 := b15.size
  have B15 := Ke.b B14 b15
  have r_m15 := Ke.r r_m14 b15
  have r_o15 := Ke.r r_o14 b15
  have r_y15 := Ke.r r_y14 b15
  have o_yv15 := Ke.o o_yv14 b15
  have o_yp15 := Ke.o o_yp14 b15
  have c_m15 := Ke.c r_m15
  have c_o15 := Ke.c r_o15
  have c_y15 := Ke.c r_y15
  clear r_m14 c_m14 r_o14 c_o14 r_y14 c_y14 o_yv14 o_yp14
  have f_v15 := Ke.h (Sl.later f_v14.out b15)
  have f_u15 := Ke.h (Sl.later f_u14.out b15)
  have f_t15 := Ke.h (Sh.later f_t14.out b15)
  have f_a15 := Ke.h (Sl.later f_a14.out b15)
  have f_f15 := Ke.h (Sl.later f_f14.out b15)
  have f_fp15 := Ke.h (Sl.later f_fp14.out b15)
  have f_xv915 := Ke.h (Sl.later f_xv914.out b15)
  have f_xp915 := Ke.h (Sl.later f_xp914.out b15)
  clear f_v14 f_u14 f_t14 f_a14 f_f14 f_fp14 f_xv914 f_xp914
  go_wp2
  go_ret
  exact ⟨rfl, B15.out⟩
end Go.Proofs.YtchonoonclllbaaGreatDoor.Mi
