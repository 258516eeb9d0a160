/- Texts in one: Mi6, SrD. -/
import Derived.Test.YtchonoonclllbabGreatDoorPb6
import Derived.Test.YtchonoonclllbabGreatDoorPb14
import Derived.Test.YtchonoonclllbabGreatDoorPb17
import Derived.Test.YtchonoonclllbabGreatDoorPb13
import Derived.Test.YtchonoonclllbabGreatDoorPb5
namespace Go.Proofs.YtchonoonclllbabGreatDoor.Mi
open Go.RowKit Go.Proofs.YtchonoonclllbabGreatDoor.Mem Go.Proofs.YtchonoonclllbabGreatDoor.Laws Go.Proofs.YtchonoonclllbabGreatDoor.Bytes Go.Proofs.YtchonoonclllbabGreatDoor.Sha Go.Proofs.YtchonoonclllbabGreatDoor.Tr Go.Proofs.YtchonoonclllbabGreatDoor.He Go.Proofs.YtchonoonclllbabGreatDoor.Lg Go.Proofs.YtchonoonclllbabGreatDoor.Sr Go.Proofs.YtchonoonclllbabGreatDoor.Mg
set_option linter.unusedVariables false
set_option linter.unusedSimpArgs false
theorem slMid14 {w : World} {b off L cap : Nat} {l : List ByteArray} (h : Sl w (.slice (some ⟨b, off, none⟩) L cap) (ss l)) (q m : Nat) (hq : q < l.length) (hm : q + m ≤ l.length) : Sl w (.slice (some ⟨b, off + q, none⟩) m (cap - q)) (ss ((l.drop q).take m)) := by
 have h1 := slBack h q (by rw [ss_len]; omega)
 have h2 := Sl.front h1 m (by rw [List.length_drop, ss_len]; omega)
 have e : ss ((l.drop q).take m) = ((ss l).drop q).take m := by unfold ss; rw [List.map_take, List.map_drop]
 rw [e]
 exact h2
set_option maxRecDepth 1000000 in
set_option maxHeartbeats 16000000 in
theorem answer_spec (w : World) (v vb vx : Value) (m : Mr) (q : Ms) (hs : Sl w v (ss m.st.l)) (hb : Sl w vb (bs m.st.b)) (hx : Sl w vx (ss q.x)) (hl : m.st.l.length ≤ 1000000000) (hz : ∀ s ∈ m.st.l, s.size ≤ 10000000000) (hn0 : 0 ≤ q.n) (hn1 : q.n < q.h.n) :
  Calls Tryz.prog 73 #[.agg #[.int .i64 m.id, v, .int .i64 m.st.h.n, .string m.st.h.r, vb, .int .i64 m.st.s, .int .i64 m.b.n, .string m.b.r], .agg #[.int .i64 q.k, .int .i64 q.f, .int .i64 q.t, .int .i64 q.h.n, .string q.h.r, .int .i64 q.n, vx]] w fun e w' => ∃ v', e = .returned v' ∧ Om w' w.heap.size w'.heap.size v' (answer m q) ∧ Below w.heap.size w w' := by
 obtain ⟨R, hR⟩ : ∃ R, answer m q = R := ⟨_, rfl⟩
 have HR : Hid (answer m q = R) := hR
 rw [hR]
 obtain ⟨id, ⟨l, h, b, s⟩, g⟩ := m
 obtain ⟨k, f, tt, ⟨hn, hr⟩, n, x⟩ := q
 simp only at *
 obtain ⟨n0, rfl⟩ : ∃ n0 : Nat, n = (n0 : Int) := ⟨n.toNat, by omega⟩
 obtain ⟨N, rfl⟩ : ∃ N : Nat, hn = (N : Int) := ⟨hn.toNat, by omega⟩
 have HS : Hid (Sl w v (ss l)) := hs
 have HSB : Hid (Sl w vb (bs b)) := hb
 obtain ⟨ao1, cap1, rfl, hc1⟩ := hb.form
 obtain ⟨ao3, cap3, rfl, hc3⟩ := hx.form
 simp only [ss_len, bs_len] at *
 by_cases hlt : (l.length : Int) < (N : Int)
 ·
  obtain ⟨ao0, cap0, rfl, hc0⟩ := hs.form
  simp only [ss_len] at *
  clear hs hb hx hR hz
  have HN : Hid (R = []) := by show _ = _; rw [← HR.out]; unfold answer; simp only; rw [if_neg (by omega)]
  clear HR
  have B0 : Hid (Below w.heap.size w w) := Below.refl _ _
  obtain ⟨W1, HW1, b1, y1, hS1, r_a1, r_q1⟩ := Ke.l2 w #[.int .i64 id, .slice ao0 l.length cap0, .int .i64 h.n, .string h.r, .slice ao1 b.length cap1, .int .i64 s, .int .i64 g.n, .string g.r] 44 #[.int .i64 k, .int .i64 f, .int .i64 tt, .int .i64 (N : Int), .string hr, .int .i64 (n0 : Int), .slice ao3 x.length cap3] 52
  have z1 := b1.size
  have B1 := Ke.b B0 b1
  have c_a1 := Ke.c r_a1
  have c_q1 := Ke.c r_q1
  go_enter Tryz.func73, Tryz.ntmps73
  go_wp2_with fail
  rw [HW1.out]
  refine wp_region_held_drew (S := fun w' => w'.cell? ⟨w.heap.size + 1, 0, none⟩ = some (.int .i64 k) ∧ w'.cell? ⟨w.heap.size + 1, 1, none⟩ = some (.int .i64 f) ∧ w'.cell? ⟨w.heap.size + 1, 2, none⟩ = some (.int .i64 tt) ∧ w'.cell? ⟨w.heap.size + 1, 3, none⟩ = some (.int .i64 (N : Int)) ∧ w'.cell? ⟨w.heap.size + 1, 4, none⟩ = some (.string hr) ∧ w'.cell? ⟨w.heap.size + 1, 5, none⟩ = some (.int .i64 (n0 : Int)) ∧ w'.cell? ⟨w.heap.size + 1, 6, none⟩ = some (.slice ao3 x.length cap3)) (by kernel_rfl) ⟨(c_q1 0), (c_q1 1), (c_q1 2), (c_q1 3), (c_q1 4), (c_q1 5), (c_q1 6)⟩ (fun hHeld => ?_)
  refine Ke.y 0 rfl (fun _ _ _ h => h) ?_
  try simp only [Act.put, pu1, pu2, pu3, pu4, pu5, pu6]
  refine Ke.y 1 rfl (fun _ _ _ h => h) ?_
  try simp only [Act.put, pu1, pu2, pu3, pu4, pu5, pu6]
  refine Ke.y 2 rfl (fun _ _ _ h => h) ?_
  try simp only [Act.put, pu1, pu2, pu3, pu4, pu5, pu6]
  refine Ke.y 3 rfl (fun _ _ _ h => h) ?_
  try simp only [Act.put, pu1, pu2, pu3, pu4, pu5, pu6]
  refine Ke.y 4 rfl (fun _ _ _ h => h) ?_
  try simp only [Act.put, pu1, pu2, pu3, pu4, pu5, pu6]
  refine Ke.y 5 rfl (fun _ _ _ h => h) ?_
  try simp only [Act.put, pu1, pu2, pu3, pu4, pu5, pu6]
  refine Ke.y 6 rfl (fun _ _ _ h => h) ?_
  try simp only [Act.put, pu1, pu2, pu3, pu4, pu5, pu6]
  refine Ke.x 7 rfl (fun _ _ _ h => h) ?_
  try simp only [Act.put, pu1, pu2, pu3, pu4, pu5, pu6]
  refine Ke.x 8 rfl (fun _ _ _ h => h) ?_
  try simp only [Act.put, pu1, pu2, pu3, pu4, pu5, pu6]
  refine Ke.x 9 rfl (fun _ _ _ h => h) ?_
  try simp only [Act.put, pu1, pu2, pu3, pu4, pu5, pu6]
  refine Ke.x 10 rfl (fun _ _ _ h => h) ?_
  try simp only [Act.put, pu1, pu2, pu3, pu4, pu5, pu6]
  refine Ke.x 11 rfl (fun _ _ _ h => h) ?_
  try simp only [Act.put, pu1, pu2, pu3, pu4, pu5, pu6]
  refine Ke.x 12 rfl (fun _ _ _ h => h) ?_
  try simp only [Act.put, pu1, pu2, pu3, pu4, pu5, pu6]
  refine Ke.x 13 rfl (fun _ _ _ h => h) ?_
  try simp only [Act.put, pu1, pu2, pu3, pu4, pu5, pu6]
  refine Ke.x 14 rfl (fun _ _ _ h => h) ?_
  try simp only [Act.put, pu1, pu2, pu3, pu4, pu5, pu6]
  refine Ke.x 15 rfl (fun _ _ _ h => h) ?_
  try simp only [Act.put, pu1, pu2, pu3, pu4, pu5, pu6]
  refine Ke.y 16 rfl (fun _ _ _ h => h) ?_
  try simp only [Act.put, pu1, pu2, pu3, pu4, pu5, pu6]
  refine wpAnyH_done (by kernel_rfl) ?_ _
  clear hHeld
  obtain ⟨W2, HW2, b2⟩ : ∃ X, Hid (W1.drew = X) ∧ Below W1.heap.size W1 X := ⟨_, rfl, Below.drew (Below.refl _ _)⟩
  rw [HW2.out]
  have z2 := b2.size
  have B2 := Ke.b B1 b2
  have r_a2 := Ke.r r_a1 b2
  have r_q2 := Ke.r r_q1 b2
  have c_a2 := Ke.c r_a2
  have c_q2 := Ke.c r_q2
  clear r_a1 c_a1 r_q1 c_q1
  go_wp2
  go_ret
  refine ⟨_, rfl, ?_, B2.out.alloc B2.out.size _⟩
  rw [HN.out]
  exact Om.nil _ _ _ _ _
 ·
  obtain ⟨ga, of, cap0, rfl, hc0⟩ := slForm hs (by rw [ss_len]; omega)
  simp only [ss_len] at *
  clear hs hb hx hR
  have hN : N ≤ l.length := by omega
  have hn2 : n0 < N := by omega
  have hNc : N ≤ cap0 := by omega
  have hn3 : n0 ≤ N := by omega
  have hcn : ¬ cap0 = n0 := by omega
  have d1 : ¬ l.length < N := by omega
  have hlt2 : decide (l.length < N) = false := decide_eq_false d1
  have HF : Hid (∀ W, Below w.heap.size w W → Sl W (.slice (some ⟨ga, of, none⟩) N cap0) (ss (l.take N)) ∧ Sl W (.slice (some ⟨ga, of + n0, none⟩) (N - n0) (cap0 - n0)) (ss ((l.take N).drop n0))) := by
   intro W hW
   have h9 := HS.out.later hW
   refine ⟨?_, ?_⟩
   ·
    have h8 := Sl.front h9 N (by rw [ss_len]; omega)
    have e8 : ss (l.take N) = (ss l).take N := by { unfold ss; rw [List.map_take] }
    rw [e8]; exact h8
   ·
    rw [List.drop_take]
    exact slMid14 h9 n0 (N - n0) (by omega) (by omega)
  obtain ⟨Xs, hX⟩ : ∃ Xs, (l.take N).drop n0 = Xs := ⟨_, rfl⟩
  have hXl : Xs.length ≤ 1000000000 := by rw [← hX, List.length_drop, List.length_take]; omega
  rw [hX] at HF
  obtain ⟨M, hM⟩ : ∃ M, headOf (l.take N) = M := ⟨_, rfl⟩
  obtain ⟨E, hE⟩ : ∃ E, eqH ⟨(N : Int), hr⟩ M = E := ⟨_, rfl⟩
  have e1 : ∀ W, (binOp .neq 38 (.agg #[.int .i64 (N : Int), .string hr]) (.agg #[.int .i64 M.n, .string M.r])).run Tryz.prog W = .ok (.bool (!E)) W := fun W => by have h9 := neqH W ⟨(N : Int), hr⟩ M; rw [hE] at h9; exact h9
  have e2 : ∀ W op y z xs ys, _ := fun W op y z xs ys => grdH W op y z xs ys
  have q1 : ∀ W v1, Sl W v1 (ss (l.take N)) → _ := fun W v1 h1 => headOf_spec W v1 (l.take N) h1 (by rw [List.length_take]; omega) (fun s hs => hz s (List.mem_of_mem_take hs))
  simp only [hM] at q1
  have HD : Hid (R = if E = true then [⟨3, id, f, ⟨(N : Int), hr⟩, (n0 : Int), Xs⟩] else []) := by
   show _ = _
   rw [← HR.out]
   unfold answer
   simp only [Int.toNat_natCast]
   rw [hM, hX, hE]
   cases E
   ·
    rw [if_neg (by simp), if_neg (by simp)]
   ·
    rw [if_pos ⟨by omega, rfl⟩, if_pos rfl]
  clear HR hX hM hE hz HS
  have B0 : Hid (Below w.heap.size w w) := Below.refl _ _
  obtain ⟨i9, hi9, hz9a, hz9b, hz9c⟩ := info_parts info9t
  obtain ⟨W1, HW1, b1, y1, hS1, r_a1, r_q1⟩ := Ke.l2 w #[.int .i64 id, .slice (some ⟨ga, of, none⟩) l.length cap0, .int .i64 h.n, .string h.r, .slice ao1 b.length cap1, .int .i64 s, .int .i64 g.n, .string g.r] 44 #[.int .i64 k, .int .i64 f, .int .i64 tt, .int .i64 (N : Int), .string hr, .int .i64 (n0 : Int), .slice ao3 x.length cap3] 52
  have z1 := b1.size
  have B1 := Ke.b B0 b1
  have c_a1 := Ke.c r_a1
  have c_q1 := Ke.c r_q1
  go_enter Tryz.func73, Tryz.ntmps73
  go_wp2_with fail
  rw [HW1.out]
  refine wp_region_held_drew (S := fun w' => w'.cell? ⟨w.heap.size + 1, 0, none⟩ = some (.int .i64 k) ∧ w'.cell? ⟨w.heap.size + 1, 1, none⟩ = some (.int .i64 f) ∧ w'.cell? ⟨w.heap.size + 1, 2, none⟩ = some (.int .i64 tt) ∧ w'.cell? ⟨w.heap.size + 1, 3, none⟩ = some (.int .i64 (N : Int)) ∧ w'.cell? ⟨w.heap.size + 1, 4, none⟩ = some (.string hr) ∧ w'.cell? ⟨w.heap.size + 1, 5, none⟩ = some (.int .i64 (n0 : Int)) ∧ w'.cell? ⟨w.heap.size + 1, 6, none⟩ = some (.slice ao3 x.length cap3)) (by kernel_rfl) ⟨(c_q1 0), (c_q1 1), (c_q1 2), (c_q1 3), (c_q1 4), (c_q1 5), (c_q1 6)⟩ (fun hHeld => ?_)
  refine Ke.y 0 rfl (fun _ _ _ h => h) ?_
  try simp only [Act.put, pu1, pu2, pu3, pu4, pu5, pu6]
  refine Ke.y 1 rfl (fun _ _ _ h => h) ?_
  try simp only [Act.put, pu1, pu2, pu3, pu4, pu5, pu6]
  refine Ke.y 2 rfl (fun _ _ _ h => h) ?_
  try simp only [Act.put, pu1, pu2, pu3, pu4, pu5, pu6]
  refine Ke.y 3 rfl (fun _ _ _ h => h) ?_
  try simp only [Act.put, pu1, pu2, pu3, pu4, pu5, pu6]
  refine Ke.y 4 rfl (fun _ _ _ h => h) ?_
  try simp only [Act.put, pu1, pu2, pu3, pu4, pu5, pu6]
  refine Ke.y 5 rfl (fun _ _ _ h => h) ?_
  try simp only [Act.put, pu1, pu2, pu3, pu4, pu5, pu6]
  refine Ke.y 6 rfl (fun _ _ _ h => h) ?_
  try simp only [Act.put, pu1, pu2, pu3, pu4, pu5, pu6]
  refine Ke.y 7 rfl (fun _ _ _ h => h) ?_
  try simp only [Act.put, pu1, pu2, pu3, pu4, pu5, pu6]
  refine Ke.y 8 rfl (fun _ _ _ h => h) ?_
  try simp only [Act.put, pu1, pu2, pu3, pu4, pu5, pu6]
  refine Ke.y 9 rfl (fun _ _ _ h => h) ?_
  try simp only [Act.put, pu1, pu2, pu3, pu4, pu5, pu6]
  refine Ke.y 10 rfl (fun _ _ _ h => h) ?_
  try simp only [Act.put, pu1, pu2, pu3, pu4, pu5, pu6]
  refine Ke.y 11 rfl (fun _ _ _ h => h) ?_
  try simp only [Act.put, pu1, pu2, pu3, pu4, pu5, pu6]
  refine Ke.y 12 rfl (fun _ _ _ h => h) ?_
  try simp only [Act.put, pu1, pu2, pu3, pu4, pu5, pu6]
  refine Ke.y 13 rfl (fun _ _ _ h => h) ?_
  try simp only [Act.put, pu1, pu2, pu3, pu4, pu5, pu6]
  refine Ke.z 14 rfl (fun K hK => ?_)
  go_simp
  refine (q1 W1.drew _ (HF.out _ (Below.drew B1.out)).1).mono ?_
  rintro e W2 ⟨rfl, b2⟩
  have b2 : Below W1.heap.size W1 W2 := (Below.drew (Below.refl _ _)).trans b2
  refine hK.out _ _ ⟨(keepR (W := W1) hHeld.1 b2), (keepR (W := W1) hHeld.2.1 b2), (keepR (W := W1) hHeld.2.2.1 b2), (keepR (W := W1) hHeld.2.2.2.1 b2), (keepR (W := W1) hHeld.2.2.2.2.1 b2), (keepR (W := W1) hHeld.2.2.2.2.2.1 b2), (keepR (W := W1) hHeld.2.2.2.2.2.2 b2)⟩ (fun hHeld => ?_)
  clear hK K
  try simp only [Act.put, pu1, pu2, pu3, pu4, pu5, pu6]
  have z2 := b2.size
  have B2 := Ke.b B1 b2
  have r_a2 := Ke.r r_a1 b2
  have r_q2 := Ke.r r_q1 b2
  have c_a2 := Ke.c r_a2
  have c_q2 := Ke.c r_q2
  clear r_a1 c_a1 r_q1 c_q1
  refine Ke.y 15 rfl (fun _ _ _ h => h) ?_
  try simp only [Act.put, pu1, pu2, pu3, pu4, pu5, pu6]
  refine Ke.y 16 rfl (fun _ _ _ h => h) ?_
  try simp only [Act.put, pu1, pu2, pu3, pu4, pu5, pu6]
  refine wpAnyH_done (by kernel_rfl) ?_ _
  clear hHeld
  clear q1
  cases E
  ·
   have HN : Hid (R = []) := by show _ = _; rw [HD.out]; rfl
   go_wp2
   go_ret
   refine ⟨_, rfl, ?_, B2.out.alloc B2.out.size _⟩
   rw [HN.out]
   exact Om.nil _ _ _ _ _
  ·
   have HN : Hid (R = [⟨3, id, f, ⟨(N : Int), hr⟩, (n0 : Int), Xs⟩]) := by show _ = _; rw [HD.out]; rfl
   go_wp2_with fail
   refine wp_region_held_drew (S := fun w' => w'.cell? ⟨w.heap.size, 0, none⟩ = some (.int .i64 id) ∧ w'.cell? ⟨w.heap.size, 1, none⟩ = some (.slice (some ⟨ga, of, none⟩) l.length cap0) ∧ w'.cell? ⟨w.heap.size, 2, none⟩ = some (.int .i64 h.n) ∧ w'.cell? ⟨w.heap.size, 3, none⟩ = some (.string h.r) ∧ w'.cell? ⟨w.heap.size, 4, none⟩ = some (.slice ao1 b.length cap1) ∧ w'.cell? ⟨w.heap.size, 5, none⟩ = some (.int .i64 s) ∧ w'.cell? ⟨w.heap.size, 6, none⟩ = some (.int .i64 g.n) ∧ w'.cell? ⟨w.heap.size, 7, none⟩ = some (.string g.r) ∧ w'.cell? ⟨w.heap.size + 1, 0, none⟩ = some (.int .i64 k) ∧ w'.cell? ⟨w.heap.size + 1, 1, none⟩ = some (.int .i64 f) ∧ w'.cell? ⟨w.heap.size + 1, 2, none⟩ = some (.int .i64 tt) ∧ w'.cell? ⟨w.heap.size + 1, 3, none⟩ = some (.int .i64 (N : Int)) ∧ w'.cell? ⟨w.heap.size + 1, 4, none⟩ = some (.string hr) ∧ w'.cell? ⟨w.heap.size + 1, 5, none⟩ = some (.int .i64 (n0 : Int)) ∧ w'.cell? ⟨w.heap.size + 1, 6, none⟩ = some (.slice ao3 x.length cap3)) (by kernel_rfl) ⟨(c_a2 0), (c_a2 1), (c_a2 2), (c_a2 3), (c_a2 4), (c_a2 5), (c_a2 6), (c_a2 7), (c_q2 0), (c_q2 1), (c_q2 2), (c_q2 3), (c_q2 4), (c_q2 5), (c_q2 6)⟩ (fun hHeld => ?_)
   refine Ke.y 0 rfl (fun _ _ _ h => h) ?_
   try simp only [Act.put, pu1, pu2, pu3, pu4, pu5, pu6]
   refine Ke.y 1 rfl (fun _ _ _ h => h) ?_
   try simp only [Act.put, pu1, pu2, pu3, pu4, pu5, pu6]
   refine Ke.y 2 rfl (fun _ _ _ h => h) ?_
   try simp only [Act.put, pu1, pu2, pu3, pu4, pu5, pu6]
   refine Ke.y 3 rfl (fun _ _ _ h => h) ?_
   try simp only [Act.put, pu1, pu2, pu3, pu4, pu5, pu6]
   refine Ke.y 4 rfl (fun _ _ _ h => h) ?_
   try simp only [Act.put, pu1, pu2, pu3, pu4, pu5, pu6]
   refine Ke.y 5 rfl (fun _ _ _ h => h) ?_
   try simp only [Act.put, pu1, pu2, pu3, pu4, pu5, pu6]
   refine Ke.y 6 rfl (fun _ _ _ h => h) ?_
   try simp only [Act.put, pu1, pu2, pu3, pu4, pu5, pu6]
   refine Ke.y 7 rfl (fun _ _ _ h => h) ?_
   try simp only [Act.put, pu1, pu2, pu3, pu4, pu5, pu6]
   refine Ke.y 9 rfl (fun _ _ _ h => h) ?_
   try simp only [Act.put, pu1, pu2, pu3, pu4, pu5, pu6]
   refine Ke.y 10 rfl (fun _ _ _ h => h) ?_
   try simp only [Act.put, pu1, pu2, pu3, pu4, pu5, pu6]
   refine Ke.y 11 rfl (fun _ _ _ h => h) ?_
   try simp only [Act.put, pu1, pu2, pu3, pu4, pu5, pu6]
   refine Ke.y 12 rfl (fun _ _ _ h => h) ?_
   try simp only [Act.put, pu1, pu2, pu3, pu4, pu5, pu6]
   refine Ke.y 13 rfl (fun _ _ _ h => h) ?_
   try simp only [Act.put, pu1, pu2, pu3, pu4, pu5, pu6]
   refine Ke.y 14 rfl (fun _ _ _ h => h) ?_
   try simp only [Act.put, pu1, pu2, pu3, pu4, pu5, pu6]
   refine Ke.y 15 rfl (fun _ _ _ h => h) ?_
   try simp only [Act.put, pu1, pu2, pu3, pu4, pu5, pu6]
   refine Ke.z 8 rfl (fun K hK => ?_)
   go_simp
   refine hK.out _ _ ⟨(keepR (W := W2.drew) hHeld.1 ((Below.refl _ _).alloc (Nat.le_refl _) _)), (keepR (W := W2.drew) hHeld.2.1 ((Below.refl _ _).alloc (Nat.le_refl _) _)), (keepR (W := W2.drew) hHeld.2.2.1 ((Below.refl _ _).alloc (Nat.le_refl _) _)), (keepR (W := W2.drew) hHeld.2.2.2.1 ((Below.refl _ _).alloc (Nat.le_refl _) _)), (keepR (W := W2.drew) hHeld.2.2.2.2.1 ((Below.refl _ _).alloc (Nat.le_refl _) _)), (keepR (W := W2.drew) hHeld.2.2.2.2.2.1 ((Below.refl _ _).alloc (Nat.le_refl _) _)), (keepR (W := W2.drew) hHeld.2.2.2.2.2.2.1 ((Below.refl _ _).alloc (Nat.le_refl _) _)), (keepR (W := W2.drew) hHeld.2.2.2.2.2.2.2.1 ((Below.refl _ _).alloc (Nat.le_refl _) _)), (keepR (W := W2.drew) hHeld.2.2.2.2.2.2.2.2.1 ((Below.refl _ _).alloc (Nat.le_refl _) _)), (keepR (W := W2.drew) hHeld.2.2.2.2.2.2.2.2.2.1 ((Below.refl _ _).alloc (Nat.le_refl _) _)), (keepR (W := W2.drew) hHeld.2.2.2.2.2.2.2.2.2.2.1 ((Below.refl _ _).alloc (Nat.le_refl _) _)), (keepR (W := W2.drew) hHeld.2.2.2.2.2.2.2.2.2.2.2.1 ((Below.refl _ _).alloc (Nat.le_refl _) _)), (keepR (W := W2.drew) hHeld.2.2.2.2.2.2.2.2.2.2.2.2.1 ((Below.refl _ _).alloc (Nat.le_refl _) _)), (keepR (W := W2.drew) hHeld.2.2.2.2.2.2.2.2.2.2.2.2.2.1 ((Below.refl _ _).alloc (Nat.le_refl _) _)), (keepR (W := W2.drew) hHeld.2.2.2.2.2.2.2.2.2.2.2.2.2.2 ((Below.refl _ _).alloc (Nat.le_refl _) _))⟩ (fun hHeld => ?_)
   clear hK K
   try simp only [Act.put, pu1, pu2, pu3, pu4, pu5, pu6]
   obtain ⟨W3, HW3, b3, o_e3⟩ : ∃ X, Hid ((W2.alloc (.cells #[] 9)).drew = X) ∧ Below W2.heap.size W2 X ∧ Hid (Own X W2.heap.size X.heap.size 9 (.slice (some ⟨W2.heap.size, 0, none⟩) 0 0) (ss [])) := ⟨_, rfl, (Below.drew ((Below.refl _ _).alloc (Nat.le_refl _) _)), emptyT W2 W2.heap.size (Nat.le_refl _)⟩
   have HHW3 := HW3.out
   rw [HHW3] at hHeld ⊢
   clear HHW3
   have z3 := b3.size
   have B3 := Ke.b B2 b3
   have r_a3 := Ke.r r_a2 b3
   have r_q3 := Ke.r r_q2 b3
   have c_a3 := Ke.c r_a3
   have c_q3 := Ke.c r_q3
   clear r_a2 c_a2 r_q2 c_q2
   refine Ke.z 16 rfl (fun K hK => ?_)
   have c6_4 : (ss []).length + (ss Xs).length ≤ maxLen := by rw [ss_len, ss_len]; unfold maxLen; (try simp only [List.length_nil]); omega
   have c7_4 : ((ss []).length + (ss Xs).length) * 16 ≤ 140737488355328 := by rw [ss_len, ss_len]; (try simp only [List.length_nil]); omega
   refine step_appG (by rfl) (.tmp 36) (.tmp 43) 22 (by rfl) 9 i9 (.string ⟨#[]⟩) 16 Tryz.underlying22 hi9 hz9a hz9b hz9c rfl (W2.heap.size) _ (ss []) (by rfl) (Own.mono o_e3.out (Nat.le_refl _) (by omega)) _ (by rfl) (ss Xs) ((HF.out _ B3.out).2) (ss_one Xs) c6_4 c7_4 (by omega) ?_
   intro v_p W4 o_p4 g4
   refine hK.out _ _ ⟨(cellGro hHeld.1 g4 (Own.neRow o_e3.out r_a3.out (by decide))), (cellGro hHeld.2.1 g4 (Own.neRow o_e3.out r_a3.out (by decide))), (cellGro hHeld.2.2.1 g4 (Own.neRow o_e3.out r_a3.out (by decide))), (cellGro hHeld.2.2.2.1 g4 (Own.neRow o_e3.out r_a3.out (by decide))), (cellGro hHeld.2.2.2.2.1 g4 (Own.neRow o_e3.out r_a3.out (by decide))), (cellGro hHeld.2.2.2.2.2.1 g4 (Own.neRow o_e3.out r_a3.out (by decide))), (cellGro hHeld.2.2.2.2.2.2.1 g4 (Own.neRow o_e3.out r_a3.out (by decide))), (cellGro hHeld.2.2.2.2.2.2.2.1 g4 (Own.neRow o_e3.out r_a3.out (by decide))), (cellGro hHeld.2.2.2.2.2.2.2.2.1 g4 (Own.neRow o_e3.out r_q3.out (by decide))), (cellGro hHeld.2.2.2.2.2.2.2.2.2.1 g4 (Own.neRow o_e3.out r_q3.out (by decide))), (cellGro hHeld.2.2.2.2.2.2.2.2.2.2.1 g4 (Own.neRow o_e3.out r_q3.out (by decide))), (cellGro hHeld.2.2.2.2.2.2.2.2.2.2.2.1 g4 (Own.neRow o_e3.out r_q3.out (by decide))), (cellGro hHeld.2.2.2.2.2.2.2.2.2.2.2.2.1 g4 (Own.neRow o_e3.out r_q3.out (by decide))), (cellGro hHeld.2.2.2.2.2.2.2.2.2.2.2.2.2.1 g4 (Own.neRow o_e3.out r_q3.out (by decide))), (cellGro hHeld.2.2.2.2.2.2.2.2.2.2.2.2.2.2 g4 (Own.neRow o_e3.out r_q3.out (by decide)))⟩ (fun hHeld => ?_)
   clear hK K
   try simp only [Act.put, pu1, pu2, pu3, pu4, pu5, pu6]
   have o_p4 : Own W4 (W2.heap.size) W4.heap.size 9 v_p (ss Xs) := o_p4
   have o_p4h : Hid (Own W4 (W2.heap.size) W4.heap.size 9 v_p (ss Xs)) := o_p4
   clear o_p4
   have o_p4 := o_p4h
   clear o_p4h
   obtain ⟨ao_p, L_p, cap_p, rfl, _, _⟩ := Mem.Own.form o_p4.out
   have z4 := g4.size
   have B4 : Hid (Below w.heap.size w W4) := belowGro B3.out g4 B3.out.size (Own.low o_e3.out (by have := B3.out.size; omega))
   have r_a4 := Ke.n r_a3 o_e3 g4
   have r_q4 := Ke.n r_q3 o_e3 g4
   have c_a4 := Ke.c r_a4
   have c_q4 := Ke.c r_q4
   clear r_a3 c_a3 r_q3 c_q3 o_e3
   clear g4 c6_4 c7_4
   refine Ke.y 17 rfl (fun _ _ _ h => h) ?_
   try simp only [Act.put, pu1, pu2, pu3, pu4, pu5, pu6]
   refine Ke.z 18 rfl (fun K hK => ?_)
   go_simp
   refine hK.out _ _ ⟨(keepR (W := W4) hHeld.1 ((Below.refl _ _).alloc (Nat.le_refl _) _)), (keepR (W := W4) hHeld.2.1 ((Below.refl _ _).alloc (Nat.le_refl _) _)), (keepR (W := W4) hHeld.2.2.1 ((Below.refl _ _).alloc (Nat.le_refl _) _)), (keepR (W := W4) hHeld.2.2.2.1 ((Below.refl _ _).alloc (Nat.le_refl _) _)), (keepR (W := W4) hHeld.2.2.2.2.1 ((Below.refl _ _).alloc (Nat.le_refl _) _)), (keepR (W := W4) hHeld.2.2.2.2.2.1 ((Below.refl _ _).alloc (Nat.le_refl _) _)), (keepR (W := W4) hHeld.2.2.2.2.2.2.1 ((Below.refl _ _).alloc (Nat.le_refl _) _)), (keepR (W := W4) hHeld.2.2.2.2.2.2.2.1 ((Below.refl _ _).alloc (Nat.le_refl _) _)), (keepR (W := W4) hHeld.2.2.2.2.2.2.2.2.1 ((Below.refl _ _).alloc (Nat.le_refl _) _)), (keepR (W := W4) hHeld.2.2.2.2.2.2.2.2.2.1 ((Below.refl _ _).alloc (Nat.le_refl _) _)), (keepR (W := W4) hHeld.2.2.2.2.2.2.2.2.2.2.1 ((Below.refl _ _).alloc (Nat.le_refl _) _)), (keepR (W := W4) hHeld.2.2.2.2.2.2.2.2.2.2.2.1 ((Below.refl _ _).alloc (Nat.le_refl _) _)), (keepR (W := W4) hHeld.2.2.2.2.2.2.2.2.2.2.2.2.1 ((Below.refl _ _).alloc (Nat.le_refl _) _)), (keepR (W := W4) hHeld.2.2.2.2.2.2.2.2.2.2.2.2.2.1 ((Below.refl _ _).alloc (Nat.le_refl _) _)), (keepR (W := W4) hHeld.2.2.2.2.2.2.2.2.2.2.2.2.2.2 ((Below.refl _ _).alloc (Nat.le_refl _) _))⟩ (fun hHeld => ?_)
   clear hK K
   try simp only [Act.put, pu1, pu2, pu3, pu4, pu5, pu6]
   obtain ⟨W5, HW5, b5, ff5⟩ : ∃ X, Hid ((W4.alloc (.cells #[.int .i64 3, .int .i64 id, .int .i64 f, .int .i64 (N : Int), .string hr, .int .i64 (n0 : Int), .slice ao_p L_p cap_p] 52)) = X) ∧ Below W4.heap.size W4 X ∧ Hid (Om X w.heap.size X.heap.size (.slice (some ⟨W4.heap.size, 0, none⟩) 1 1) [⟨3, id, f, ⟨(N : Int), hr⟩, (n0 : Int), Xs⟩]) := ⟨_, rfl, ((Below.refl _ _).alloc (Nat.le_refl _) _), Om.one ⟨3, id, f, ⟨(N : Int), hr⟩, (n0 : Int), Xs⟩ (Own.mono o_p4.out (by omega) (by omega)) (by omega)⟩
   have HHW5 := HW5.out
   rw [HHW5] at hHeld ⊢
   clear HHW5
   have z5 := b5.size
   have B5 := Ke.b B4 b5
   have r_a5 := Ke.r r_a4 b5
   have r_q5 := Ke.r r_q4 b5
   have o_p5 := Ke.o o_p4 b5
   have c_a5 := Ke.c r_a5
   have c_q5 := Ke.c r_q5
   clear r_a4 c_a4 r_q4 c_q4 o_p4
   have f_om5 : Hid (Om W5 w.heap.size W5.heap.size (.slice (some ⟨W4.heap.size, 0, none⟩) 1 1) [⟨3, id, f, ⟨(N : Int), hr⟩, (n0 : Int), Xs⟩]) := ff5.out
   clear ff5
   refine Ke.y 19 rfl (fun _ _ _ h => h) ?_
   try simp only [Act.put, pu1, pu2, pu3, pu4, pu5, pu6]
   refine wpAnyH_done (by kernel_rfl) ?_ _
   clear hHeld
   go_wp2
   go_ret
   refine ⟨_, rfl, ?_, B5.out⟩
   rw [HN.out]
   exact f_om5.out
end Go.Proofs.YtchonoonclllbabGreatDoor.Mi
namespace Go.Proofs.YtchonoonclllbabGreatDoor.Sr
open Go.RowKit Go.Proofs.YtchonoonclllbabGreatDoor.Mem Go.Proofs.YtchonoonclllbabGreatDoor.Laws Go.Proofs.YtchonoonclllbabGreatDoor.Bytes Go.Proofs.YtchonoonclllbabGreatDoor.Sha Go.Proofs.YtchonoonclllbabGreatDoor.Tr Go.Proofs.YtchonoonclllbabGreatDoor.He Go.Proofs.YtchonoonclllbabGreatDoor.Lg
set_option linter.unusedVariables false
set_option linter.unusedSimpArgs false
set_option maxRecDepth 1000000 in
set_option maxHeartbeats 8000000 in
theorem commit1_spec (w : World) (v vb vt vx : Value) (st : Sto) (t : List Hd) (hd : Hd) (x : List ByteArray) (hs : Sl w v (ss st.l)) (hb : Sl w vb (bs st.b)) (hst : Sh w vt t) (hsx : Sl w vx (ss x)) (hl : st.l.length ≤ 1000000000) (hbl : st.b.length ≤ 1000000000) (htl : t.length ≤ 1000000000) (hxl : x.length ≤ 1000000000)
  (hz : ∀ s ∈ st.l, s.size ≤ 10000000000) (hzx : ∀ s ∈ x, s.size ≤ 10000000000) (htx : Puts.tot x ≤ 100000000000) (hdr : hd.r.size ≤ 100000000000) :
  Calls Tryz.prog 107 #[.agg #[v, .int .i64 st.h.n, .string st.h.r, vb, .int .i64 st.s], vt, .agg #[.int .i64 hd.n, .string hd.r], vx] w fun e w' => ∃ v' vb', e = .returned (.tuple #[.agg #[v', .int .i64 (commit1 st t hd x).1.h.n, .string (commit1 st t hd x).1.h.r, vb', .int .i64 (commit1 st t hd x).1.s], .int .i64 (commit1 st t hd x).2]) ∧ Own w' w.heap.size w'.heap.size 9 v' (ss (commit1 st t hd x).1.l) ∧ Own w' w.heap.size w'.heap.size 5 vb' (bs (commit1 st t hd x).1.b) ∧ Below w.heap.size w w' := by
 obtain ⟨R, hR⟩ : ∃ R, commit1 st t hd x = R := ⟨_, rfl⟩
 have HR : Hid (commit1 st t hd x = R) := hR
 rw [hR]
 obtain ⟨l, h, b, s⟩ := st
 simp only at *
 have HS : Hid (Sl w v (ss l)) := hs
 have HSB : Hid (Sl w vb (bs b)) := hb
 have HT : Hid (Sh w vt t) := hst
 have HX : Hid (Sl w vx (ss x)) := hsx
 obtain ⟨ao0, cap0, rfl, hc0⟩ := hs.form
 obtain ⟨ao1, cap1, rfl, hc1⟩ := hb.form
 obtain ⟨ao2, cap2, rfl, hc2⟩ := hst.form
 obtain ⟨ao3, cap3, rfl, hc3⟩ := hsx.form
 simp only [ss_len, bs_len] at *
 clear hs hb hst hsx hR
 have B0 : Hid (Below w.heap.size w w) := Below.refl _ _
 obtain ⟨i5, hi5, hz5a, hz5b, hz5c⟩ := info_parts info5
 obtain ⟨W1, HW1, b1, y1, hS1, r_a1, r_h1, r_res1⟩ := Ke.l3 w #[.slice ao0 l.length cap0, .int .i64 h.n, .string h.r, .slice ao1 b.length cap1, .int .i64 s] 42 #[.int .i64 hd.n, .string hd.r] 38 #[.slice none 0 0, .int .i64 0, .string ⟨#[]⟩, .slice none 0 0, .int .i64 0] 42
 have z1 := b1.size
 have B1 := Ke.b B0 b1
 have q1 : ∀ W v1 v2, Sl W v1 (ss l) → Sl W v2 (bs b) → _ := fun W v1 v2 h1 h2 => copy_spec W v1 v2 ⟨l, h, b, s⟩ h1 h2 hl hbl
 have q2 : ∀ W v1 v2 v3, Sl W v1 (ss l) → Sh W v2 t → Sl W v3 (ss x) → _ := fun W v1 v2 v3 h1 h2 h3 => extend_spec W v1 v2 v3 l x h hd t h1 h2 h3 hl htl hxl hz hzx
 have q3 : ∀ W v1, Sl W v1 (ss x) → _ := fun W v1 h1 => put_spec W hd v1 x h1 hxl htx hdr
 obtain ⟨E, hE⟩ : ∃ E, extend l h t hd x = E := ⟨_, rfl⟩
 simp only [hE] at q2
 have HE : Hid (extend l h t hd x = E) := hE
 obtain ⟨L, H, C⟩ := E
 simp only at q1 q2
 obtain ⟨Pb, hPb⟩ : ∃ P, put hd x = P := ⟨_, rfl⟩
 have hPl : Pb.length ≤ 1000000000000 := by rw [← hPb]; have h9 := put_len hd x; have h8 := body_len hd x; omega
 simp only [hPb] at q3
 have HP : Hid (put hd x = Pb) := hPb
 clear hPb hE hz hzx htx hdr
 have HH : Hid (C = 0 → H = hd ∧ R = (⟨L, H, b ++ Pb, s⟩, 0)) := by
  intro hC
  obtain ⟨_, _, _, _, _, _, h7⟩ := extend_good (l := l) (x := x) (hd := h) (h := hd) (t := t) (by rw [HE.out]; exact hC)
  rw [HE.out] at h7
  simp only [Prod.mk.injEq] at h7
  refine ⟨h7.2.1, ?_⟩
  rw [← HR.out]
  unfold commit1
  simp only
  rw [HE.out, if_pos hC, HP.out]
 have HG : Hid (¬ C = 0 → R = (⟨l, h, b, s⟩, C)) := by
  intro hC
  rw [← HR.out]
  unfold commit1
  simp only
  rw [HE.out, if_neg hC]
 go_enter Tryz.func107, Tryz.ntmps107
 go_wp2_with fail
 rw [HW1.out]
 refine (q1 W1 _ _ (HS.out.later B1.out) (HSB.out.later B1.out)).mono ?_
 rintro e W2 ⟨v_s, v_p, rfl, o_s2, o_p2, b2⟩
 obtain ⟨ao_s, L_s, cap_s, rfl, hL_s, hM_s⟩ := o_s2.form
 have o_s2 : Hid (Own W2 W1.heap.size W2.heap.size 9 (.slice ao_s L_s cap_s) (ss l)) := o_s2
 clear hL_s hM_s
 have z2 := b2.size
 have B2 := Ke.b B1 b2
 have r_a2 := Ke.r r_a1 b2
 have r_h2 := Ke.r r_h1 b2
 have r_res2 := Ke.r r_res1 b2
 have c_a2 := Ke.c r_a2
 have c_h2 := Ke.c r_h2
 clear r_a1 r_h1 r_res1
 obtain ⟨ao_p, L_p, cap_p, rfl, _, _⟩ := o_p2.form
 have o_p2 : Hid (Own W2 W1.heap.size W2.heap.size 5 (.slice ao_p L_p cap_p) (bs b)) := o_p2
 have a_a2 := Ke.a r_a2
 have a_h2 := Ke.a r_h2
 obtain ⟨W3, HW3, b3, y3, hS3, r_out3⟩ := Ke.l1 W2 #[.slice ao_s L_s cap_s, .int .i64 h.n, .string h.r, .slice ao_p L_p cap_p, .int .i64 s] 42
 have z3 := b3.size
 have B3 := Ke.b B2 b3
 have r_h3 := Ke.r r_h2 b3
 have r_res3 := Ke.r r_res2 b3
 have o_s3 := Ke.o o_s2 b3
 have o_p3 := Ke.o o_p2 b3
 clear r_a2 c_a2 r_h2 c_h2 r_res2 o_s2 o_p2
 go_wp2_with fail
 rw [HW3.out]
 clear a_a2 a_h2
 refine (q2 W3 _ _ _ (HS.out.later B3.out) (HT.out.later B3.out) (HX.out.later B3.out)).mono ?_
 rintro e W4 ⟨v_n, rfl, o_n4, b4⟩
 obtain ⟨ao_n, L_n, cap_n, rfl, hL_n, hM_n⟩ := o_n4.form
 have o_n4 : Hid (Own W4 W3.heap.size W4.heap.size 9 (.slice ao_n L_n cap_n) (ss L)) := o_n4
 clear hL_n hM_n
 have z4 := b4.size
 have B4 := Ke.b B3 b4
 have r_h4 := Ke.r r_h3 b4
 have r_res4 := Ke.r r_res3 b4
 have r_out4 := Ke.r r_out3 b4
 have o_s4 := Ke.o o_s3 b4
 have o_p4 := Ke.o o_p3 b4
 clear r_h3 r_res3 r_out3 o_s3 o_p3
 obtain ⟨W5, HW5, b5, y5, hS5, r_l5⟩ := Ke.l1 W4 #[.slice ao_n L_n cap_n, .int .i64 H.n, .string H.r] 40
 have z5 := b5.size
 have B5 := Ke.b B4 b5
 have r_h5 := Ke.r r_h4 b5
 have r_res5 := Ke.r r_res4 b5
 have r_out5 := Ke.r r_out4 b5
 have o_s5 := Ke.o o_s4 b5
 have o_p5 := Ke.o o_p4 b5
 have o_n5 := Ke.o o_n4 b5
 clear r_h4 r_res4 r_out4 o_s4 o_p4 o_n4
 by_cases hC : C = 0
 ·
  obtain ⟨hH, hRR⟩ := HH.out hC
  have HN : Hid (R = (⟨L, H, b ++ Pb, s⟩, 0)) := hRR
  have HEq : Hid (H = hd) := hH
  clear hRR hH
  subst hC
  go_wp2_with ((try rw [HW5.out]); refine wpl_partG rfl 40 _ _ rfl (W2.heap.size) 0 (lc (.slice ao_n L_n cap_n) H) rfl rfl [.slice ao_s L_s cap_s, .int .i64 h.n, .string h.r, .slice ao_p L_p cap_p, .int .i64 s] 42 r_out5.out (Nat.le_of_ble_eq_true rfl) (sizeL _ _) (oneL _ rfl) [.slice ao_n L_n cap_n, .int .i64 H.n, .string H.r, .slice ao_p L_p cap_p, .int .i64 s] rfl ?_)
  intro W6 r_out6 g6
  have r_out6 := Ke.h r_out6
  have z6 := g6.size
  have B6 : Hid (Below w.heap.size w W6) := belowGro B5.out g6 B5.out.size (fun k9 h9 => by injection h9 with h9; have := B5.out.size; omega)
  have r_h6 := Ke.s r_h5 g6
  have r_res6 := Ke.s r_res5 g6
  have o_p6 := Ke.t o_p5 r_out5 g6
  have o_n6 := Ke.t o_n5 r_out5 g6
  have c_h6 := Ke.c r_h6
  have c_res6 := Ke.c r_res6
  have c_out6 := Ke.c r_out6
  clear r_h5 r_res5 r_l5 o_s5 o_p5 o_n5
  clear r_out5
  clear g6
  go_wp2_with fail
  refine wp_region_held_drew (S := fun w' => w'.cell? ⟨w.heap.size + 1, 0, none⟩ = some (.int .i64 hd.n) ∧ w'.cell? ⟨w.heap.size + 1, 1, none⟩ = some (.string hd.r)) (by kernel_rfl) ⟨(c_h6 0), (c_h6 1)⟩ (fun hHeld => ?_)
  refine Ke.y 0 rfl (fun _ _ _ h => h) ?_
  try simp only [Act.put, pu1, pu2, pu3, pu4, pu5, pu6]
  refine Ke.y 2 rfl (fun _ _ _ h => h) ?_
  try simp only [Act.put, pu1, pu2, pu3, pu4, pu5, pu6]
  refine Ke.y 3 rfl (fun _ _ _ h => h) ?_
  try simp only [Act.put, pu1, pu2, pu3, pu4, pu5, pu6]
  refine wpAnyH_ready (rs := [1, 4]) (by kernel_rfl) (by simp) ?_
  refine AllReadyH.cons rfl (fun K hK => ?_) (AllReadyH.cons rfl (fun K hK => ?_) AllReadyH.nil)
  ·
   have cd_h_0 : W6.drew.cell? ⟨w.heap.size + 1, 0, none⟩ = some (.int .i64 hd.n) := (c_h6 0)
   have cd_h_1 : W6.drew.cell? ⟨w.heap.size + 1, 1, none⟩ = some (.string hd.r) := (c_h6 1)
   have cd_res_0 : W6.drew.cell? ⟨w.heap.size + 1 + 1, 0, none⟩ = some (.slice none 0 0) := (c_res6 0)
   have cd_res_1 : W6.drew.cell? ⟨w.heap.size + 1 + 1, 1, none⟩ = some (.int .i64 0) := (c_res6 1)
   have cd_res_2 : W6.drew.cell? ⟨w.heap.size + 1 + 1, 2, none⟩ = some (.string ⟨#[]⟩) := (c_res6 2)
   have cd_res_3 : W6.drew.cell? ⟨w.heap.size + 1 + 1, 3, none⟩ = some (.slice none 0 0) := (c_res6 3)
   have cd_res_4 : W6.drew.cell? ⟨w.heap.size + 1 + 1, 4, none⟩ = some (.int .i64 0) := (c_res6 4)
   have cd_out_0 : W6.drew.cell? ⟨W2.heap.size, 0, none⟩ = some (.slice ao_n L_n cap_n) := (c_out6 0)
   have cd_out_1 : W6.drew.cell? ⟨W2.heap.size, 1, none⟩ = some (.int .i64 H.n) := (c_out6 1)
   have cd_out_2 : W6.drew.cell? ⟨W2.heap.size, 2, none⟩ = some (.string H.r) := (c_out6 2)
   have cd_out_3 : W6.drew.cell? ⟨W2.heap.size, 3, none⟩ = some (.slice ao_p L_p cap_p) := (c_out6 3)
   have cd_out_4 : W6.drew.cell? ⟨W2.heap.size, 4, none⟩ = some (.int .i64 s) := (c_out6 4)
   go_simp
   refine hK.out _ _ ⟨hHeld.1, hHeld.2⟩ (fun hHeld => ?_)
   clear hK K
   try simp only [Act.put, pu1, pu2, pu3, pu4, pu5, pu6]
   clear cd_h_0 cd_h_1 cd_res_0 cd_res_1 cd_res_2 cd_res_3 cd_res_4 cd_out_0 cd_out_1 cd_out_2 cd_out_3 cd_out_4
   refine Ke.z 4 rfl (fun K hK => ?_)
   go_simp
   refine (q3 W6.drew _ (Sl.later (w := W6) (HX.out.later B6.out) (Below.drew (Below.refl _ _)))).mono ?_
   rintro e W7 ⟨v_u, rfl, o_u7, b7⟩
   have b7 : Below W6.heap.size W6 W7 := (Below.drew (Below.refl _ _)).trans b7
   refine hK.out _ _ ⟨(keepR (W := W6) hHeld.1 b7), (keepR (W := W6) hHeld.2 b7)⟩ (fun hHeld => ?_)
   clear hK K
   try simp only [Act.put, pu1, pu2, pu3, pu4, pu5, pu6]
   have o_u7 : Own W7 W6.heap.size W7.heap.size 5 _ _ := o_u7
   obtain ⟨ao_u, L_u, cap_u, rfl, hL_u, hM_u⟩ := o_u7.form
   have o_u7 : Hid (Own W7 W6.heap.size W7.heap.size 5 (.slice ao_u L_u cap_u) (bs Pb)) := o_u7
   clear hL_u hM_u
   have z7 := b7.size
   have B7 := Ke.b B6 b7
   have r_h7 := Ke.r r_h6 b7
   have r_res7 := Ke.r r_res6 b7
   have r_out7 := Ke.r r_out6 b7
   have o_p7 := Ke.o o_p6 b7
   have o_n7 := Ke.o o_n6 b7
   have c_out7 := Ke.c r_out7
   clear r_h6 c_h6 r_res6 c_res6 r_out6 c_out6 o_p6 o_n6
   refine Ke.z 5 rfl (fun K hK => ?_)
   have c6_8 : (bs b).length + (bs Pb).length ≤ maxLen := by rw [bs_len, bs_len]; unfold maxLen; (try simp only [List.length_nil]); omega
   have c7_8 : ((bs b).length + (bs Pb).length) * 1 ≤ 140737488355328 := by rw [bs_len, bs_len]; (try simp only [List.length_nil]); omega
   refine step_appG (by rfl) (.tmp 31) (.tmp 34) 27 (by rfl) 5 i5 (.int .u8 0) 1 Tryz.underlying27 hi5 hz5a hz5b hz5c rfl (W1.heap.size) _ (bs b) (by rfl) (Own.mono o_p7.out (Nat.le_refl _) (by omega)) _ (by rfl) (bs Pb) (o_u7.out.sl) (bs_one Pb) c6_8 c7_8 (by omega) ?_
   intro v_y W8 o_y8 g8
   refine hK.out _ _ ⟨(cellGro hHeld.1 g8 (Own.neRow o_p7.out r_h7.out (by decide))), (cellGro hHeld.2 g8 (Own.neRow o_p7.out r_h7.out (by decide)))⟩ (fun hHeld => ?_)
   clear hK K
   try simp only [Act.put, pu1, pu2, pu3, pu4, pu5, pu6]
   have o_y8 : Own W8 (W1.heap.size) W8.heap.size 5 v_y (bs (b ++ Pb)) := by show Own _ _ _ _ _ _; rw [bs_app]; exact o_y8
   have o_y8h : Hid (Own W8 (W1.heap.size) W8.heap.size 5 v_y (bs (b ++ Pb))) := o_y8
   clear o_y8
   have o_y8 := o_y8h
   clear o_y8h
   obtain ⟨ao_y, L_y, cap_y, rfl, _, _⟩ := Mem.Own.form o_y8.out
   have z8 := g8.size
   have B8 : Hid (Below w.heap.size w W8) := belowGro B7.out g8 B7.out.size (Own.low o_p7.out (by have := B7.out.size; omega))
   have r_res8 := Ke.n r_res7 o_p7 g8
   have r_out8 := Ke.n r_out7 o_p7 g8
   have o_n8 : Hid (Own W8 (W3.heap.size) (W4.heap.size) 9 (.slice ao_n L_n cap_n) (ss L)) := Own.gro o_n7.out g8 (Own.neOwn o_p7.out o_n7.out (by decide))
   clear r_h7 r_res7 r_out7 c_out7 o_p7 o_n7 o_u7
   clear g8 c6_8 c7_8
   refine Ke.y 6 rfl (fun _ _ _ h => h) ?_
   try simp only [Act.put, pu1, pu2, pu3, pu4, pu5, pu6]
   refine Ke.z 7 rfl (fun K hK => ?_)
   rw [if_pos (by rfl)]
   refine wp_oneG 27 _ _ rfl (W2.heap.size) 3 (.slice ao_y L_y cap_y) rfl rfl [.slice ao_n L_n cap_n, .int .i64 H.n, .string H.r, .slice ao_p L_p cap_p, .int .i64 s] 42 r_out8.out (Nat.le_of_ble_eq_true rfl) (by kernel_rfl) rfl [.slice ao_n L_n cap_n, .int .i64 H.n, .string H.r, .slice ao_y L_y cap_y, .int .i64 s] rfl ?_
   intro W9 r_out9 g9
   refine hK.out _ _ ⟨(cellGro hHeld.1 g9 (by show some (W2.heap.size) ≠ some (w.heap.size + 1); intro h9; injection h9 with h9; omega)), (cellGro hHeld.2 g9 (by show some (W2.heap.size) ≠ some (w.heap.size + 1); intro h9; injection h9 with h9; omega))⟩ (fun hHeld => ?_)
   clear hK K
   try simp only [Act.put, pu1, pu2, pu3, pu4, pu5, pu6]
   have r_out9 : Hid (W9.heap[W2.heap.size]? = some (.cells #[.slice ao_n L_n cap_n, .int .i64 H.n, .string H.r, .slice ao_y L_y cap_y, .int .i64 s] 42 (0, 0))) := r_out9
   have z9 := g9.size
   have B9 : Hid (Below w.heap.size w W9) := belowGro B8.out g9 B8.out.size (fun k9 h9 => by injection h9 with h9; have := B8.out.size; omega)
   have r_res9 := Ke.s r_res8 g9
   have o_n9 := Ke.t o_n8 r_out8 g9
   have o_y9 := Ke.t o_y8 r_out8 g9
   clear r_res8 o_n8 o_y8
   clear r_out8
   clear g9
   refine wpAnyH_done (by kernel_rfl) ?_ _
   clear hHeld
   go_wp2_with (first | (refine wpList_load_row rfl 42 _ rfl (W2.heap.size) rfl 42 (sc (.slice ao_n L_n cap_n) H (.slice ao_y L_y cap_y) s) (0, 0) _ r_out9.out Tryz.underlying42 rfl (sizeS _ _ _ _) ?_) | (refine wpList_store_row rfl 42 _ _ rfl (w.heap.size + 1 + 1) (sc (.slice ao_n L_n cap_n) H (.slice ao_y L_y cap_y) s) rfl rfl 42 _ r_res9.out (sizeS _ _ _ _) rfl (oneS _ _ rfl rfl) ?_))
   refine bodyPost_ret (res_row_tmp rfl _ _ (w.heap.size + 1 + 1) 42 (sc (.slice ao_n L_n cap_n) H (.slice ao_y L_y cap_y) s) (0, 0) _ rfl (setRow_heap _ _ _ _ _ (0, 0) r_res9.out) Tryz.underlying42 rfl (sizeS _ _ _ _)) rfl ⟨.slice ao_n L_n cap_n, .slice ao_y L_y cap_y, by rw [HN.out]; rfl, ?_, ?_, below_setRow B9.out (by omega) _⟩
   ·
    rw [HN.out]
    exact (Own.setRow o_n9.out _ (by omega)).mono (by omega) (by rw [size_setRow]; omega)
   ·
    rw [HN.out]
    exact (Own.setRow o_y9.out _ (by omega)).mono (by omega) (by rw [size_setRow]; omega)
  ·
   go_simp
   refine (q3 W6.drew _ (Sl.later (w := W6) (HX.out.later B6.out) (Below.drew (Below.refl _ _)))).mono ?_
   rintro e W7 ⟨v_u, rfl, o_u7, b7⟩
   have b7 : Below W6.heap.size W6 W7 := (Below.drew (Below.refl _ _)).trans b7
   refine hK.out _ _ ⟨(keepR (W := W6) hHeld.1 b7), (keepR (W := W6) hHeld.2 b7)⟩ (fun hHeld => ?_)
   clear hK K
   try simp only [Act.put, pu1, pu2, pu3, pu4, pu5, pu6]
   have o_u7 : Own W7 W6.heap.size W7.heap.size 5 _ _ := o_u7
   obtain ⟨ao_u, L_u, cap_u, rfl, hL_u, hM_u⟩ := o_u7.form
   have o_u7 : Hid (Own W7 W6.heap.size W7.heap.size 5 (.slice ao_u L_u cap_u) (bs Pb)) := o_u7
   clear hL_u hM_u
   have z7 := b7.size
   have B7 := Ke.b B6 b7
   have r_h7 := Ke.r r_h6 b7
   have r_res7 := Ke.r r_res6 b7
   have r_out7 := Ke.r r_out6 b7
   have o_p7 := Ke.o o_p6 b7
   have o_n7 := Ke.o o_n6 b7
   have c_out7 := Ke.c r_out7
   clear r_h6 c_h6 r_res6 c_res6 r_out6 c_out6 o_p6 o_n6
   refine Ke.z 1 rfl (fun K hK => ?_)
   go_simp
   refine hK.out _ _ ⟨hHeld.1, hHeld.2⟩ (fun hHeld => ?_)
   clear hK K
   try simp only [Act.put, pu1, pu2, pu3, pu4, pu5, pu6]
   refine Ke.z 5 rfl (fun K hK => ?_)
   have c6_8 : (bs b).length + (bs Pb).length ≤ maxLen := by rw [bs_len, bs_len]; unfold maxLen; (try simp only [List.length_nil]); omega
   have c7_8 : ((bs b).length + (bs Pb).length) * 1 ≤ 140737488355328 := by rw [bs_len, bs_len]; (try simp only [List.length_nil]); omega
   refine step_appG (by rfl) (.tmp 31) (.tmp 34) 27 (by rfl) 5 i5 (.int .u8 0) 1 Tryz.underlying27 hi5 hz5a hz5b hz5c rfl (W1.heap.size) _ (bs b) (by rfl) (Own.mono o_p7.out (Nat.le_refl _) (by omega)) _ (by rfl) (bs Pb) (o_u7.out.sl) (bs_one Pb) c6_8 c7_8 (by omega) ?_
   intro v_y W8 o_y8 g8
   refine hK.out _ _ ⟨(cellGro hHeld.1 g8 (Own.neRow o_p7.out r_h7.out (by decide))), (cellGro hHeld.2 g8 (Own.neRow o_p7.out r_h7.out (by decide)))⟩ (fun hHeld => ?_)
   clear hK K
   try simp only [Act.put, pu1, pu2, pu3, pu4, pu5, pu6]
   have o_y8 : Own W8 (W1.heap.size) W8.heap.size 5 v_y (bs (b ++ Pb)) := by show Own _ _ _ _ _ _; rw [bs_app]; exact o_y8
   have o_y8h : Hid (Own W8 (W1.heap.size) W8.heap.size 5 v_y (bs (b ++ Pb))) := o_y8
   clear o_y8
   have o_y8 := o_y8h
   clear o_y8h
   obtain ⟨ao_y, L_y, cap_y, rfl, _, _⟩ := Mem.Own.form o_y8.out
   have z8 := g8.size
   have B8 : Hid (Below w.heap.size w W8) := belowGro B7.out g8 B7.out.size (Own.low o_p7.out (by have := B7.out.size; omega))
   have r_res8 := Ke.n r_res7 o_p7 g8
   have r_out8 := Ke.n r_out7 o_p7 g8
   have o_n8 : Hid (Own W8 (W3.heap.size) (W4.heap.size) 9 (.slice ao_n L_n cap_n) (ss L)) := Own.gro o_n7.out g8 (Own.neOwn o_p7.out o_n7.out (by decide))
   clear r_h7 r_res7 r_out7 c_out7 o_p7 o_n7 o_u7
   clear g8 c6_8 c7_8
   refine Ke.y 6 rfl (fun _ _ _ h => h) ?_
   try simp only [Act.put, pu1, pu2, pu3, pu4, pu5, pu6]
   refine Ke.z 7 rfl (fun K hK => ?_)
   rw [if_pos (by rfl)]
   refine wp_oneG 27 _ _ rfl (W2.heap.size) 3 (.slice ao_y L_y cap_y) rfl rfl [.slice ao_n L_n cap_n, .int .i64 H.n, .string H.r, .slice ao_p L_p cap_p, .int .i64 s] 42 r_out8.out (Nat.le_of_ble_eq_true rfl) (by kernel_rfl) rfl [.slice ao_n L_n cap_n, .int .i64 H.n, .string H.r, .slice ao_y L_y cap_y, .int .i64 s] rfl ?_
   intro W9 r_out9 g9
   refine hK.out _ _ ⟨(cellGro hHeld.1 g9 (by show some (W2.heap.size) ≠ some (w.heap.size + 1); intro h9; injection h9 with h9; omega)), (cellGro hHeld.2 g9 (by show some (W2.heap.size) ≠ some (w.heap.size + 1); intro h9; injection h9 with h9; omega))⟩ (fun hHeld => ?_)
   clear hK K
   try simp only [Act.put, pu1, pu2, pu3, pu4, pu5, pu6]
   have r_out9 : Hid (W9.heap[W2.heap.size]? = some (.cells #[.slice ao_n L_n cap_n, .int .i64 H.n, .string H.r, .slice ao_y L_y cap_y, .int .i64 s] 42 (0, 0))) := r_out9
   have z9 := g9.size
   have B9 : Hid (Below w.heap.size w W9) := belowGro B8.out g9 B8.out.size (fun k9 h9 => by injection h9 with h9; have := B8.out.size; omega)
   have r_res9 := Ke.s r_res8 g9
   have o_n9 := Ke.t o_n8 r_out8 g9
   have o_y9 := Ke.t o_y8 r_out8 g9
   clear r_res8 o_n8 o_y8
   clear r_out8
   clear g9
   refine wpAnyH_done (by kernel_rfl) ?_ _
   clear hHeld
   go_wp2_with (first | (refine wpList_load_row rfl 42 _ rfl (W2.heap.size) rfl 42 (sc (.slice ao_n L_n cap_n) H (.slice ao_y L_y cap_y) s) (0, 0) _ r_out9.out Tryz.underlying42 rfl (sizeS _ _ _ _) ?_) | (refine wpList_store_row rfl 42 _ _ rfl (w.heap.size + 1 + 1) (sc (.slice ao_n L_n cap_n) H (.slice ao_y L_y cap_y) s) rfl rfl 42 _ r_res9.out (sizeS _ _ _ _) rfl (oneS _ _ rfl rfl) ?_))
   refine bodyPost_ret (res_row_tmp rfl _ _ (w.heap.size + 1 + 1) 42 (sc (.slice ao_n L_n cap_n) H (.slice ao_y L_y cap_y) s) (0, 0) _ rfl (setRow_heap _ _ _ _ _ (0, 0) r_res9.out) Tryz.underlying42 rfl (sizeS _ _ _ _)) rfl ⟨.slice ao_n L_n cap_n, .slice ao_y L_y cap_y, by rw [HN.out]; rfl, ?_, ?_, below_setRow B9.out (by omega) _⟩
   ·
    rw [HN.out]
    exact (Own.setRow o_n9.out _ (by omega)).mono (by omega) (by rw [size_setRow]; omega)
   ·
    rw [HN.out]
    exact (Own.setRow o_y9.out _ (by omega)).mono (by omega) (by rw [size_setRow]; omega)
 ·
  have cn : (C == 0) = false := by rw [beq_eq_false_iff_ne]; exact hC
  have cm : (C != 0) = true := by rw [bne, cn]; rfl
  have HN : Hid (R = (⟨l, h, b, s⟩, C)) := HG.out hC
  go_wp2_with (first | ((try rw [HW5.out]); refine wpList_load_row rfl 42 _ rfl (W2.heap.size) rfl 42 (sc (.slice ao_s L_s cap_s) h (.slice ao_p L_p cap_p) s) (0, 0) _ r_out5.out Tryz.underlying42 rfl (sizeS _ _ _ _) ?_) | (refine wpList_store_row rfl 42 _ _ rfl (w.heap.size + 1 + 1) (sc (.slice ao_s L_s cap_s) h (.slice ao_p L_p cap_p) s) rfl rfl 42 _ r_res5.out (sizeS _ _ _ _) rfl (oneS _ _ rfl rfl) ?_))
  refine bodyPost_ret (res_row_tmp rfl _ _ (w.heap.size + 1 + 1) 42 (sc (.slice ao_s L_s cap_s) h (.slice ao_p L_p cap_p) s) (0, 0) _ rfl (setRow_heap _ _ _ _ _ (0, 0) r_res5.out) Tryz.underlying42 rfl (sizeS _ _ _ _)) rfl ⟨.slice ao_s L_s cap_s, .slice ao_p L_p cap_p, by rw [HN.out]; rfl, ?_, ?_, below_setRow B5.out (by omega) _⟩
  ·
   rw [HN.out]
   exact (Own.setRow o_s5.out _ (by omega)).mono (by omega) (by rw [size_setRow]; omega)
  ·
   rw [HN.out]
   exact (Own.setRow o_p5.out _ (by omega)).mono (by omega) (by rw [size_setRow]; omega)
end Go.Proofs.YtchonoonclllbabGreatDoor.Sr
