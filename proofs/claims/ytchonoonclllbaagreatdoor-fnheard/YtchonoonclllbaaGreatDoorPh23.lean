/- Texts in one: Mi6. -/
import Derived.Test.YtchonoonclllbaaGreatDoorPh22
set_option maxHeartbeats 16000000
set_option linter.unusedVariables false
set_option linter.unusedSimpArgs false
namespace Go.Proofs.YtchonoonclllbaaGreatDoor.Mi
open Go.RowKit Mem Laws Bytes Sha Tr He Lg Sr Mg
theorem slMid14 {w : World} {b off L cap : Nat} {l : List ByteArray} (h : Sl w (.slice (some ⟨b, off, none⟩) L cap) (ss l)) (q m : Nat) (hq : q < l.length) (hm : q + m ≤ l.length) : Sl w (.slice (some ⟨b, off + q, none⟩) m (cap - q)) (ss ((l.drop q).take m)) := by
 have h1 := slBack h q (by rw [ss_len]; omega)
 have h2 := Sl.front h1 m (by rw [List.length_drop, ss_len]; omega)
 have e : ss ((l.drop q).take m) = ((ss l).drop q).take m := by unfold ss; rw [List.map_take, List.map_drop]
 rw [e]
 exact h2
set_option maxRecDepth 1000000 in
theorem answer_spec (w : World) (v vb vx : Value) (m : Mr) (q : Ms) (hs : Sl w v (ss m.st.l)) (hb : Sl w vb (bs m.st.b)) (hx : Sl w vx (ss q.x)) (hl : m.st.l.length ≤ 1000000000) (hz : ∀ s ∈ m.st.l, s.size ≤ 10000000000) (hn0 : 0 ≤ q.n) (hn1 : q.n < q.h.n) :
  Calls Tryz.prog 92 #[.agg #[.int .i64 m.id, v, .int .i64 m.st.h.n, .string m.st.h.r, vb, .int .i64 m.st.s, .int .i64 m.b.n, .string m.b.r], .agg #[.int .i64 q.k, .int .i64 q.f, .int .i64 q.t, .int .i64 q.h.n, .string q.h.r, .int .i64 q.n, vx]] w fun e w' => ∃ v', e = .returned v' ∧ Om w' w.heap.size w'.heap.size v' (answer m q) ∧ Below w.heap.size w w' := by
 obtain ⟨R, hR⟩ : ∃ R, answer m q = R := ⟨_, rfl⟩
 have HR : Hid (answer m q = R) := hR
 rw [hR]
 obtain ⟨id, ⟨l, h, b, s⟩, g⟩ := m
 obtain ⟨k, f, tt, ⟨hn, hr⟩, n, x⟩ := q
 simp only at *
 obtain ⟨n0, rfl⟩ : ∃ n0 : Nat, n = (n0 : Int) := ⟨n.toNat, by omega⟩
 obtain ⟨N, rfl⟩ : ∃ N : Nat, hn = (N : Int) := ⟨hn.toNat, by omega⟩
 have HS : Hid (Sl w v (ss l)) := hs
 have HSB : Hid (Sl w vb (bs b)) := hb
 obtain ⟨ao1, cap1, rfl, hc1⟩ := hb.form
 obtain ⟨ao3, cap3, rfl, hc3⟩ := hx.form
 simp only [ss_len, bs_len] at *
 by_cases hlt : (l.length : Int) < (N : Int)
 ·obtain ⟨ao0, cap0, rfl, hc0⟩ := hs.form
  simp only [ss_len] at *
  clear hs hb hx hR hz
  have HN : Hid (R = []) := by show _ = _; rw [← HR.out]; unfold answer; simp only; rw [if_neg (by omega)]
  clear HR
  have B0 : Hid (Below w.heap.size w w) := Below.refl _ _
  obtain ⟨W1, HW1, b1, y1, hS1, r_a1, r_q1⟩ := Ke.l2 w #[.int .i64 id, .slice ao0 l.length cap0, .int .i64 h.n, .string h.r, .slice ao1 b.length cap1, .int .i64 s, .int .i64 g.n, .string g.r] 32 #[.int .i64 k, .int .i64 f, .int .i64 tt, .int .i64 (N : Int), .string hr, .int .i64 (n0 : Int), .slice ao3 x.length cap3] 35
  have z1 := b1.size
  have B1 := Ke.b B0 b1
  have c_a1 := Ke.c r_a1
  have c_q1 := Ke.c r_q1
  go_enter Tryz.func92, Tryz.ntmps92
  go_wp2_with fail
  rw [HW1.out]
  refine wp_region_held_drew (S := fun w' => (∀ j, w'.cell? ⟨w.heap.size + 1, j, none⟩ = #[.int .i64 k, .int .i64 f, .int .i64 tt, .int .i64 (N : Int), .string hr, .int .i64 (n0 : Int), .slice ao3 x.length cap3][j]?)) (by kernel_rfl) c_q1 (fun hHeld => ?_)
  refine Ke.q 0 ?_; try simp only [Act.put, pq]
  refine Ke.q 1 ?_; try simp only [Act.put, pq]
  refine Ke.q 2 ?_; try simp only [Act.put, pq]
  refine Ke.q 3 ?_; try simp only [Act.put, pq]
  refine Ke.q 4 ?_; try simp only [Act.put, pq]
  refine Ke.q 5 ?_; try simp only [Act.put, pq]
  refine Ke.q 6 ?_; try simp only [Act.put, pq]
  refine Ke.p 7 ?_; try simp only [Act.put, pq]
  refine Ke.p 8 ?_; try simp only [Act.put, pq]
  refine Ke.p 9 ?_; try simp only [Act.put, pq]
  refine Ke.p 10 ?_; try simp only [Act.put, pq]
  refine Ke.p 11 ?_; try simp only [Act.put, pq]
  refine Ke.p 12 ?_; try simp only [Act.put, pq]
  refine Ke.p 13 ?_; try simp only [Act.put, pq]
  refine Ke.p 14 ?_; try simp only [Act.put, pq]
  refine Ke.p 15 ?_; try simp only [Act.put, pq]
  refine Ke.q 16 ?_; try simp only [Act.put, pq]
  refine wpAnyH_done (by kernel_rfl) ?_ _
  clear hHeld
  obtain ⟨W2, HW2, b2⟩ := Ke.v W1
  rw [HW2.out]
  have z2 := b2.size
  have B2 := Ke.b B1 b2
  have r_a2 := Ke.r r_a1 b2
  have r_q2 := Ke.r r_q1 b2
  have c_a2 := Ke.c r_a2
  have c_q2 := Ke.c r_q2
  clear r_a1 c_a1 r_q1 c_q1
  go_wp2
  go_ret
  refine ⟨_, rfl, ?_, B2.out.alloc B2.out.size _⟩
  rw [HN.out]
  exact Om.nil _ _ _ _ _
 ·obtain ⟨ga, of, cap0, rfl, hc0⟩ := slForm hs (by rw [ss_len]; omega)
  simp only [ss_len] at *
  clear hs hb hx hR
  have hN : N ≤ l.length := by omega
  have hn2 : n0 < N := by omega
  have hNc : N ≤ cap0 := by omega
  have hn3 : n0 ≤ N := by omega
  have hcn : ¬ cap0 = n0 := by omega
  have d1 : ¬ l.length < N := by omega
  have hlt2 : decide (l.length < N) = false := decide_eq_false d1
  have HF : Hid (∀ W, Below w.heap.size w W → Sl W (.slice (some ⟨ga, of, none⟩) N cap0) (ss (l.take N)) ∧ Sl W (.slice (some ⟨ga, of + n0, none⟩) (N - n0) (cap0 - n0)) (ss ((l.take N).drop n0))) := by
   intro W hW
   have h9 := HS.out.later hW
   refine ⟨?_, ?_⟩
   ·have h8 := Sl.front h9 N (by rw [ss_len]; omega)
    have e8 : ss (l.take N) = (ss l).take N := by { unfold ss; rw [List.map_take] }
    rw [e8]; exact h8
   ·rw [List.drop_take]
    exact slMid14 h9 n0 (N - n0) (by omega) (by omega)
  obtain ⟨Xs, hX⟩ : ∃ Xs, (l.take N).drop n0 = Xs := ⟨_, rfl⟩
  have hXl : Xs.length ≤ 1000000000 := by rw [← hX, List.length_drop, List.length_take]; omega
  rw [hX] at HF
  obtain ⟨M, hM⟩ : ∃ M, headOf (l.take N) = M := ⟨_, rfl⟩
  obtain ⟨E, hE⟩ : ∃ E, eqH ⟨(N : Int), hr⟩ M = E := ⟨_, rfl⟩
  have e1 : ∀ W, (binOp .neq 26 (.agg #[.int .i64 (N : Int), .string hr]) (.agg #[.int .i64 M.n, .string M.r])).run Tryz.prog W = .ok (.bool (!E)) W := fun W => by have h9 := neqH W ⟨(N : Int), hr⟩ M; rw [hE] at h9; exact h9
  have e2 : ∀ W op y z xs ys, _ := fun W op y z xs ys => grdH W op y z xs ys
  have q1 : ∀ W v1, Sl W v1 (ss (l.take N)) → _ := fun W v1 h1 => headOf_spec W v1 (l.take N) h1 (by rw [List.length_take]; omega) (fun s hs => hz s (List.mem_of_mem_take hs))
  simp only [hM] at q1
  have HD : Hid (R = if E = true then [⟨3, id, f, ⟨(N : Int), hr⟩, (n0 : Int), Xs⟩] else []) := by
   show _ = _
   rw [← HR.out]
   unfold answer
   simp only [Int.toNat_natCast]
   rw [hM, hX, hE]
   cases E
   ·rw [if_neg (by simp), if_neg (by simp)]
   ·rw [if_pos ⟨by omega, rfl⟩, if_pos rfl]
  clear HR hX hM hE hz HS
  have B0 : Hid (Below w.heap.size w w) := Below.refl _ _
  obtain ⟨i9, hi9, hz9a, hz9b, hz9c⟩ := info_parts info9t
  obtain ⟨W1, HW1, b1, y1, hS1, r_a1, r_q1⟩ := Ke.l2 w #[.int .i64 id, .slice (some ⟨ga, of, none⟩) l.length cap0, .int .i64 h.n, .string h.r, .slice ao1 b.length cap1, .int .i64 s, .int .i64 g.n, .string g.r] 32 #[.int .i64 k, .int .i64 f, .int .i64 tt, .int .i64 (N : Int), .string hr, .int .i64 (n0 : Int), .slice ao3 x.length cap3] 35
  have z1 := b1.size
  have B1 := Ke.b B0 b1
  have c_a1 := Ke.c r_a1
  have c_q1 := Ke.c r_q1
  go_enter Tryz.func92, Tryz.ntmps92
  go_wp2_with fail
  rw [HW1.out]
  refine wp_region_held_drew (S := fun w' => (∀ j, w'.cell? ⟨w.heap.size + 1, j, none⟩ = #[.int .i64 k, .int .i64 f, .int .i64 tt, .int .i64 (N : Int), .string hr, .int .i64 (n0 : Int), .slice ao3 x.length cap3][j]?)) (by kernel_rfl) c_q1 (fun hHeld => ?_)
  refine Ke.q 0 ?_; try simp only [Act.put, pq]
  refine Ke.q 1 ?_; try simp only [Act.put, pq]
  refine Ke.q 2 ?_; try simp only [Act.put, pq]
  refine Ke.q 3 ?_; try simp only [Act.put, pq]
  refine Ke.q 4 ?_; try simp only [Act.put, pq]
  refine Ke.q 5 ?_; try simp only [Act.put, pq]
  refine Ke.q 6 ?_; try simp only [Act.put, pq]
  refine Ke.q 7 ?_; try simp only [Act.put, pq]
  refine Ke.q 8 ?_; try simp only [Act.put, pq]
  refine Ke.q 9 ?_; try simp only [Act.put, pq]
  refine Ke.q 10 ?_; try simp only [Act.put, pq]
  refine Ke.q 11 ?_; try simp only [Act.put, pq]
  refine Ke.q 12 ?_; try simp only [Act.put, pq]
  refine Ke.q 13 ?_; try simp only [Act.put, pq]
  refine Ke.z 14 rfl (fun K hK => ?_)
  go_simp
  refine (q1 W1.drew _ (HF.out _ (Below.drew B1.out)).1).mono ?_
  rintro e W2 ⟨rfl, b2⟩
  have b2 : Below W1.heap.size W1 W2 := (Below.drew (Below.refl _ _)).trans b2
  refine hK.out _ _ (Ke.k (W := W1) hHeld b2) (fun hHeld => ?_)
  clear hK K
  try simp only [Act.put, pq]
  have z2 := b2.size
  have B2 := Ke.b B1 b2
  have r_a2 := Ke.r r_a1 b2
  have r_q2 := Ke.r r_q1 b2
  have c_a2 := Ke.c r_a2
  have c_q2 := Ke.c r_q2
  clear r_a1 c_a1 r_q1 c_q1
  refine Ke.q 15 ?_; try simp only [Act.put, pq]
  refine Ke.q 16 ?_; try simp only [Act.put, pq]
  refine wpAnyH_done (by kernel_rfl) ?_ _
  clear hHeld
  clear q1
  cases E
  ·have HN : Hid (R = []) := by show _ = _; rw [HD.out]; rfl
   go_wp2
   go_ret
   refine ⟨_, rfl, ?_, B2.out.alloc B2.out.size _⟩
   rw [HN.out]
   exact Om.nil _ _ _ _ _
  ·have HN : Hid (R = [⟨3, id, f, ⟨(N : Int), hr⟩, (n0 : Int), Xs⟩]) := by show _ = _; rw [HD.out]; rfl
   go_wp2_with fail
   refine wp_region_held_drew (S := fun w' => (∀ j, w'.cell? ⟨w.heap.size, j, none⟩ = #[.int .i64 id, .slice (some ⟨ga, of, none⟩) l.length cap0, .int .i64 h.n, .string h.r, .slice ao1 b.length cap1, .int .i64 s, .int .i64 g.n, .string g.r][j]?) ∧ (∀ j, w'.cell? ⟨w.heap.size + 1, j, none⟩ = #[.int .i64 k, .int .i64 f, .int .i64 tt, .int .i64 (N : Int), .string hr, .int .i64 (n0 : Int), .slice ao3 x.length cap3][j]?)) (by kernel_rfl) ⟨c_a2, c_q2⟩ (fun hHeld => ?_)
   refine Ke.q 0 ?_; try simp only [Act.put, pq]
   refine Ke.q 1 ?_; try simp only [Act.put, pq]
   refine Ke.q 2 ?_; try simp only [Act.put, pq]
   refine Ke.q 3 ?_; try simp only [Act.put, pq]
   refine Ke.q 4 ?_; try simp only [Act.put, pq]
   refine Ke.q 5 ?_; try simp only [Act.put, pq]
   refine Ke.q 6 ?_; try simp only [Act.put, pq]
   refine Ke.q 7 ?_; try simp only [Act.put, pq]
   refine Ke.q 9 ?_; try simp only [Act.put, pq]
   refine Ke.q 10 ?_; try simp only [Act.put, pq]
   refine Ke.q 11 ?_; try simp only [Act.put, pq]
   refine Ke.q 12 ?_; try simp only [Act.put, pq]
   refine Ke.q 13 ?_; try simp only [Act.put, pq]
   refine Ke.q 14 ?_; try simp only [Act.put, pq]
   refine Ke.q 15 ?_; try simp only [Act.put, pq]
   refine Ke.z 8 rfl (fun K hK => ?_)
   go_simp
   refine hK.out _ _ ⟨(Ke.k (W := W2.drew) hHeld.1 ((Below.refl _ _).alloc (Nat.le_refl _) _)), (Ke.k (W := W2.drew) hHeld.2 ((Below.refl _ _).alloc (Nat.le_refl _) _))⟩ (fun hHeld => ?_)
   clear hK K
   try simp only [Act.put, pq]
   obtain ⟨W3, HW3, b3, o_e3⟩ : ∃ X, Hid ((W2.alloc (.cells #[] 9)).drew = X) ∧ Below W2.heap.size W2 X ∧ Hid (Own X W2.heap.size X.heap.size 9 (.slice (some ⟨W2.heap.size, 0, none⟩) 0 0) (ss [])) := ⟨_, rfl, (Below.drew ((Below.refl _ _).alloc (Nat.le_refl _) _)), emptyT W2 W2.heap.size (Nat.le_refl _)⟩
   have HHW3 := HW3.out
   rw [HHW3] at hHeld ⊢
   clear HHW3
   have z3 := b3.size
   have B3 := Ke.b B2 b3
   have r_a3 := Ke.r r_a2 b3
   have r_q3 := Ke.r r_q2 b3
   have c_a3 := Ke.c r_a3
   have c_q3 := Ke.c r_q3
   clear r_a2 c_a2 r_q2 c_q2
   refine Ke.z 16 rfl (fun K hK => ?_)
   have c6_4 : (ss []).length + (ss Xs).length ≤ maxLen := by rw [ss_len, ss_len]; unfold maxLen; (try simp only [List.length_nil]); omega
   have c7_4 : ((ss []).length + (ss Xs).length) * 16 ≤ 140737488355328 := by rw [ss_len, ss_len]; (try simp only [List.length_nil]); omega
   refine step_appG (by rfl) (.tmp 36) (.tmp 43) 24 (by rfl) 9 i9 (.string ⟨#[]⟩) 16 Tryz.underlying24 hi9 hz9a hz9b hz9c rfl (W2.heap.size) _ (ss []) (by rfl) (Own.mono o_e3.out (Nat.le_refl _) (by omega)) _ (by rfl) (ss Xs) ((HF.out _ B3.out).2) (ss_one Xs) c6_4 c7_4 (by omega) ?_
   intro v_p W4 o_p4 g4
   refine hK.out _ _ ⟨(Ke.g hHeld.1 g4 (Own.neRow o_e3.out r_a3.out (by decide))), (Ke.g hHeld.2 g4 (Own.neRow o_e3.out r_q3.out (by decide)))⟩ (fun hHeld => ?_)
   clear hK K
   try simp only [Act.put, pq]
   have o_p4 : Own W4 (W2.heap.size) W4.heap.size 9 v_p (ss Xs) := o_p4
   have o_p4h : Hid (Own W4 (W2.heap.size) W4.heap.size 9 v_p (ss Xs)) := o_p4
   clear o_p4
   have o_p4 := o_p4h
   clear o_p4h
   obtain ⟨ao_p, L_p, cap_p, rfl, _, _⟩ := Mem.Own.form o_p4.out
   have z4 := g4.size
   have B4 : Hid (Below w.heap.size w W4) := belowGro B3.out g4 B3.out.size (Own.low o_e3.out (by have := B3.out.size; omega))
   have r_a4 := Ke.n r_a3 o_e3 g4
   have r_q4 := Ke.n r_q3 o_e3 g4
   have c_a4 := Ke.c r_a4
   have c_q4 := Ke.c r_q4
   clear r_a3 c_a3 r_q3 c_q3 o_e3
   clear g4 c6_4 c7_4
   refine Ke.q 17 ?_; try simp only [Act.put, pq]
   refine Ke.z 18 rfl (fun K hK => ?_)
   go_simp
   refine hK.out _ _ ⟨(Ke.k (W := W4) hHeld.1 ((Below.refl _ _).alloc (Nat.le_refl _) _)), (Ke.k (W := W4) hHeld.2 ((Below.refl _ _).alloc (Nat.le_refl _) _))⟩ (fun hHeld => ?_)
   clear hK K
   try simp only [Act.put, pq]
   obtain ⟨W5, HW5, b5, ff5⟩ : ∃ X, Hid ((W4.alloc (.cells #[.int .i64 3, .int .i64 id, .int .i64 f, .int .i64 (N : Int), .string hr, .int .i64 (n0 : Int), .slice ao_p L_p cap_p] 35)) = X) ∧ Below W4.heap.size W4 X ∧ Hid (Om X w.heap.size X.heap.size (.slice (some ⟨W4.heap.size, 0, none⟩) 1 1) [⟨3, id, f, ⟨(N : Int), hr⟩, (n0 : Int), Xs⟩]) := ⟨_, rfl, ((Below.refl _ _).alloc (Nat.le_refl _) _), Om.one ⟨3, id, f, ⟨(N : Int), hr⟩, (n0 : Int), Xs⟩ (Own.mono o_p4.out (by omega) (by omega)) (by omega)⟩
   have HHW5 := HW5.out
   rw [HHW5] at hHeld ⊢
   clear HHW5
   have z5 := b5.size
   have B5 := Ke.b B4 b5
   have r_a5 := Ke.r r_a4 b5
   have r_q5 := Ke.r r_q4 b5
   have o_p5 := Ke.o o_p4 b5
   have c_a5 := Ke.c r_a5
   have c_q5 := Ke.c r_q5
   clear r_a4 c_a4 r_q4 c_q4 o_p4
   have f_om5 : Hid (Om W5 w.heap.size W5.heap.size (.slice (some ⟨W4.heap.size, 0, none⟩) 1 1) [⟨3, id, f, ⟨(N : Int), hr⟩, (n0 : Int), Xs⟩]) := ff5.out
   clear ff5
   refine Ke.q 19 ?_; try simp only [Act.put, pq]
   refine wpAnyH_done (by kernel_rfl) ?_ _
   clear hHeld
   go_wp2
   go_ret
   refine ⟨_, rfl, ?_, B5.out⟩
   rw [HN.out]
   exact f_om5.out
end Go.Proofs.YtchonoonclllbaaGreatDoor.Mi
