/- Texts in one: MjA, Mj3, LhC, Mj6. -/
import Derived.Test.YtchonoonclllbaaGreatDoorPh35
set_option maxHeartbeats 16000000
set_option linter.unusedVariables false
set_option linter.unusedSimpArgs false
namespace Go.Proofs.YtchonoonclllbaaGreatDoor.Mi
open Go.RowKit Mem Laws Bytes Sha Tr He Lg Sr Mg
theorem slNil14 (w : World) : Sl w (.slice none 0 0) (ss []) := ⟨none, 0, rfl, Nat.le_refl _, fun _ => rfl, fun h => by simp [ss] at h⟩
set_option maxRecDepth 1000000 in
theorem known_impl (w : World) (vt : Value) (t : List Hd) (h : Hd) (hG : Glob w) (hst : Sh w vt t) (htl : t.length ≤ 1000000000) :
  Calls Tryz.prog 54 #[vt, .agg #[.int .i64 h.n, .string h.r]] w fun e w' => e = .returned (.bool (known t h)) ∧ Below w.heap.size w w' := by
 obtain ⟨R, hR⟩ : ∃ R, known t h = R := ⟨_, rfl⟩
 have HR : Hid (known t h = R) := hR
 rw [hR]
 have HT : Hid (Sh w vt t) := hst
 have HG : Hid (Glob w) := hG
 obtain ⟨ao0, cap0, rfl, hc0⟩ := hst.form
 clear hst hR hG
 have B0 : Hid (Below w.heap.size w w) := Below.refl _ _
 obtain ⟨W1, HW1, b1, y1, hS1, r_h1⟩ := Ke.l1 w #[.int .i64 h.n, .string h.r] 26
 have z1 := b1.size
 have B1 := Ke.b B0 b1
 have c_h1 := Ke.c r_h1
 obtain ⟨M, hM⟩ : ∃ M, headOf [] = M := ⟨_, rfl⟩
 obtain ⟨E, hE⟩ : ∃ E, eqH h M = E := ⟨_, rfl⟩
 have e1 : ∀ W, _ := fun W => eqlH W h M
 have e2 : ∀ W op y z xs ys, _ := fun W op y z xs ys => grdH W op y z xs ys
 simp only [hE] at e1
 have q1 : ∀ W, Glob W → _ := fun W hW => headOf_impl W (.slice none 0 0) [] hW (slNil14 W) (by simp) (fun s hs => by cases hs)
 simp only [hM] at q1
 have q2 : ∀ W v1, Sh W v1 t → _ := fun W v1 h1 => signed_impl W v1 t h h1 (by omega)
 obtain ⟨A, hA⟩ : ∃ A, signed t h = A := ⟨_, rfl⟩
 simp only [hA] at q2
 have HD : Hid (R = (E || A)) := by show _ = _; rw [← HR.out]; unfold known; rw [hM, hE, hA]
 clear HR hM hE hA
 go_enter Tryz.func54, Tryz.ntmps54
 go_wp2_with fail
 rw [HW1.out]
 refine wp_region_held_drew (S := fun w' => w'.cell? ⟨w.heap.size, 0, none⟩ = some (.int .i64 h.n) ∧ w'.cell? ⟨w.heap.size, 1, none⟩ = some (.string h.r)) (by kernel_rfl) ⟨(c_h1 0), (c_h1 1)⟩ (fun hHeld => ?_)
 refine Ke.q 0 ?_; try simp only [Act.put, pq]
 refine Ke.z 1 rfl (fun K hK => ?_)
 go_simp
 refine (q1 W1.drew ((HG.out.later B1.out).later (Below.drew (Below.refl _ _)))).mono ?_
 rintro e W2 ⟨rfl, b2⟩
 have b2 : Below W1.heap.size W1 W2 := (Below.drew (Below.refl _ _)).trans b2
 refine hK.out _ _ ⟨(keepR (W := W1) hHeld.1 b2), (keepR (W := W1) hHeld.2 b2)⟩ (fun hHeld => ?_)
 clear hK K
 try simp only [Act.put, pq]
 have z2 := b2.size
 have B2 := Ke.b B1 b2
 clear r_h1 c_h1
 refine Ke.q 2 ?_; try simp only [Act.put, pq]
 refine Ke.q 3 ?_; try simp only [Act.put, pq]
 cases E
 ·refine Ke.q 4 ?_; try simp only [Act.put, pq]
  refine Ke.q 5 ?_; try simp only [Act.put, pq]
  refine Ke.z 6 rfl (fun K hK => ?_)
  go_simp
  refine (q2 W2 _ (HT.out.later B2.out)).mono ?_
  rintro e W3 ⟨rfl, b3⟩
  refine hK.out _ _ ⟨(keepR (W := W2) hHeld.1 b3), (keepR (W := W2) hHeld.2 b3)⟩ (fun hHeld => ?_)
  clear hK K
  try simp only [Act.put, pq]
  have z3 := b3.size
  have B3 := Ke.b B2 b3
  refine Ke.q 7 ?_; try simp only [Act.put, pq]
  refine Ke.q 8 ?_; try simp only [Act.put, pq]
  refine wpAnyH_done (by kernel_rfl) ?_ _
  clear hHeld
  go_wp2
  go_ret
  exact ⟨by rw [HD.out]; rfl, B3.out⟩
 ·refine Ke.p 4 ?_; try simp only [Act.put, pq]
  refine Ke.p 5 ?_; try simp only [Act.put, pq]
  refine Ke.p 6 ?_; try simp only [Act.put, pq]
  refine Ke.q 7 ?_; try simp only [Act.put, pq]
  refine Ke.q 8 ?_; try simp only [Act.put, pq]
  refine wpAnyH_done (by kernel_rfl) ?_ _
  clear hHeld
  go_wp2
  go_ret
  exact ⟨by rw [HD.out]; rfl, B2.out⟩
set_option maxRecDepth 1000000 in
theorem mirrorok_impl (w : World) (v vb vt : Value) (m : Mr) (t : List Hd) (hG : Glob w) (hN : NoC w) (hgr : m.b.r.size ≤ 1000000000000) (hs : Sl w v (ss m.st.l)) (hb : Sl w vb (bs m.st.b)) (hby : Byt m.st.b) (hst : Sh w vt t) (hl : m.st.l.length ≤ 1000000000) (hbl : m.st.b.length ≤ 1000000000) (htl : t.length ≤ 1000000000) (hz : ∀ s ∈ m.st.l, s.size ≤ 10000000000) :
  Calls Tryz.prog 14 #[.agg #[.int .i64 m.id, v, .int .i64 m.st.h.n, .string m.st.h.r, vb, .int .i64 m.st.s, .int .i64 m.b.n, .string m.b.r], vt] w fun e w' => e = .returned (.bool (mirrorOk m t)) ∧ Below w.heap.size w w' := by
 obtain ⟨R, hR⟩ : ∃ R, mirrorOk m t = R := ⟨_, rfl⟩
 have HR : Hid (mirrorOk m t = R) := hR
 rw [hR]
 obtain ⟨id, ⟨l, h, b, s⟩, g⟩ := m
 simp only at *
 have HS : Hid (Sl w v (ss l)) := hs
 have HSB : Hid (Sl w vb (bs b)) := hb
 have HBY : Hid (Byt b) := hby
 have HT : Hid (Sh w vt t) := hst
 have HG : Hid (Glob w) := hG
 have HN : Hid (NoC w) := hN
 obtain ⟨ao0, cap0, rfl, hc0⟩ := hs.form
 obtain ⟨ao1, cap1, rfl, hc1⟩ := hb.form
 obtain ⟨ao2, cap2, rfl, hc2⟩ := hst.form
 simp only [ss_len, bs_len] at *
 clear hs hb hby hst hR hG hN
 have B0 : Hid (Below w.heap.size w w) := Below.refl _ _
 obtain ⟨W1, HW1, b1, y1, hS1, r_a1⟩ := Ke.l1 w #[.int .i64 id, .slice ao0 l.length cap0, .int .i64 h.n, .string h.r, .slice ao1 b.length cap1, .int .i64 s, .int .i64 g.n, .string g.r] 32
 have z1 := b1.size
 have B1 := Ke.b B0 b1
 have c_a1 := Ke.c r_a1
 have q1 : ∀ W v1 v2, Glob W → NoC W → Sl W v1 (ss l) → Sl W v2 (bs b) → _ := fun W v1 v2 hG hN h1 h2 => storeok_impl W v1 v2 ⟨l, h, b, s⟩ hG hN h1 h2 HBY.out hl hbl hz
 obtain ⟨A, hA⟩ : ∃ A, storeOk ⟨l, h, b, s⟩ = A := ⟨_, rfl⟩
 simp only [hA] at q1
 have q2 : ∀ W, _ := fun W => ok_impl W g hgr
 obtain ⟨B, hB⟩ : ∃ B, okH g = B := ⟨_, rfl⟩
 simp only [hB] at q2
 have q3 : ∀ W v1, Glob W → Sh W v1 t → _ := fun W v1 hG h1 => known_impl W v1 t g hG h1 htl
 obtain ⟨C, hC⟩ : ∃ C, known t g = C := ⟨_, rfl⟩
 simp only [hC] at q3
 have q4 : ∀ W v1, Glob W → Sh W v1 t → _ := fun W v1 hG h1 => known_impl W v1 t h hG h1 htl
 obtain ⟨D, hD⟩ : ∃ D, known t h = D := ⟨_, rfl⟩
 simp only [hD] at q4
 obtain ⟨I, hI⟩ : ∃ I, decide (0 ≤ id ∧ id ≤ 20) = I := ⟨_, rfl⟩
 have q0 : ∀ W, _ := fun W => Wd.mirror_impl W id
 simp only [hI] at q0
 have HD : Hid (R = (I && A && B && C && D)) := by show _ = _; rw [← HR.out]; unfold mirrorOk; simp only; rw [hI, hA, hB, hC, hD]
 clear HR hI hA hB hC hD hz
 go_enter Tryz.func14, Tryz.ntmps14
 go_wp2_with fail
 rw [HW1.out]
 refine (q0 W1).mono ?_
 rintro e W_ ⟨rfl, hW_⟩
 subst hW_
 clear q0
 cases I
 ·go_wp2
  go_ret
  exact ⟨by rw [HD.out]; simp, B1.out⟩
 ·go_wp2_with fail
  refine (q2 W1).mono ?_
  rintro e W2 ⟨rfl, b2⟩
  have z2 := b2.size
  have B2 := Ke.b B1 b2
  have r_a2 := Ke.r r_a1 b2
  have c_a2 := Ke.c r_a2
  clear r_a1 c_a1
  cases B
  ·go_wp2
   go_ret
   exact ⟨by rw [HD.out]; simp, B2.out⟩
  ·go_wp2_with fail
   refine (q3 W2 _ (HG.out.later B2.out) (HT.out.later B2.out)).mono ?_
   rintro e W3 ⟨rfl, b3⟩
   have z3 := b3.size
   have B3 := Ke.b B2 b3
   have r_a3 := Ke.r r_a2 b3
   have c_a3 := Ke.c r_a3
   clear r_a2 c_a2
   cases C
   ·go_wp2
    go_ret
    exact ⟨by rw [HD.out]; simp, B3.out⟩
   ·go_wp2_with fail
    refine (q4 W3 _ (HG.out.later B3.out) (HT.out.later B3.out)).mono ?_
    rintro e W4 ⟨rfl, b4⟩
    have z4 := b4.size
    have B4 := Ke.b B3 b4
    have r_a4 := Ke.r r_a3 b4
    have c_a4 := Ke.c r_a4
    clear r_a3 c_a3
    cases D
    ·go_wp2
     go_ret
     exact ⟨by rw [HD.out]; simp, B4.out⟩
    ·go_wp2_with fail
     refine (q1 W4 _ _ (HG.out.later B4.out) (NoC.later HN.out B4.out) (HS.out.later B4.out) (HSB.out.later B4.out)).mono ?_
     rintro e W5 ⟨rfl, b5⟩
     have z5 := b5.size
     have B5 := Ke.b B4 b5
     clear r_a4 c_a4
     cases A
     ·go_wp2
      go_ret
      exact ⟨by rw [HD.out]; simp, B5.out⟩
     ·go_wp2
      go_ret
      exact ⟨by rw [HD.out]; simp, B5.out⟩
set_option maxRecDepth 1000000 in
theorem mcopy_impl (w : World) (v vb : Value) (m : Mr) (hz : ∀ s ∈ m.st.l, s.size ≤ 1000000000000) (hh : m.st.h.r.size ≤ 1000000000000) (hgr : m.b.r.size ≤ 1000000000000) (hs : Sl w v (ss m.st.l)) (hb : Sl w vb (bs m.st.b)) (hl : m.st.l.length ≤ 1000000000) (hbl : m.st.b.length ≤ 1000000000) :
  Calls Tryz.prog 43 #[.agg #[.int .i64 m.id, v, .int .i64 m.st.h.n, .string m.st.h.r, vb, .int .i64 m.st.s, .int .i64 m.b.n, .string m.b.r]] w fun e w' => ∃ v' vb', e = .returned (.agg #[.int .i64 m.id, v', .int .i64 m.st.h.n, .string m.st.h.r, vb', .int .i64 m.st.s, .int .i64 m.b.n, .string m.b.r]) ∧ Own w' w.heap.size w'.heap.size 9 v' (ss m.st.l) ∧ Own w' w.heap.size w'.heap.size 5 vb' (bs m.st.b) ∧ Below w.heap.size w w' := by
 obtain ⟨id, ⟨l, h, b, s⟩, g⟩ := m
 simp only at *
 have HS : Hid (Sl w v (ss l)) := hs
 have HSB : Hid (Sl w vb (bs b)) := hb
 obtain ⟨ao0, cap0, rfl, hc0⟩ := hs.form
 obtain ⟨ao1, cap1, rfl, hc1⟩ := hb.form
 simp only [ss_len, bs_len] at *
 clear hs hb
 have B0 : Hid (Below w.heap.size w w) := Below.refl _ _
 obtain ⟨W1, HW1, b1, y1, hS1, r_a1, r_res1⟩ := Ke.l2 w #[.int .i64 id, .slice ao0 l.length cap0, .int .i64 h.n, .string h.r, .slice ao1 b.length cap1, .int .i64 s, .int .i64 g.n, .string g.r] 32 #[.int .i64 0, .slice none 0 0, .int .i64 0, .string ⟨#[]⟩, .slice none 0 0, .int .i64 0, .int .i64 0, .string ⟨#[]⟩] 32
 have z1 := b1.size
 have B1 := Ke.b B0 b1
 have c_a1 := Ke.c r_a1
 have q1 : ∀ W v1 v2, Sl W v1 (ss l) → Sl W v2 (bs b) → _ := fun W v1 v2 h1 h2 => ownstore_impl W v1 v2 ⟨l, h, b, s⟩ h1 h2 hl hbl hz hh
 simp only at q1
 have q2 : ∀ W, _ := fun W => own_impl W g hgr
 go_enter Tryz.func43, Tryz.ntmps43
 go_wp2_with fail
 rw [HW1.out]
 refine wp_region_held_drew (S := fun w' => w'.cell? ⟨w.heap.size, 0, none⟩ = some (.int .i64 id) ∧ w'.cell? ⟨w.heap.size, 1, none⟩ = some (.slice ao0 l.length cap0) ∧ w'.cell? ⟨w.heap.size, 2, none⟩ = some (.int .i64 h.n) ∧ w'.cell? ⟨w.heap.size, 3, none⟩ = some (.string h.r) ∧ w'.cell? ⟨w.heap.size, 4, none⟩ = some (.slice ao1 b.length cap1) ∧ w'.cell? ⟨w.heap.size, 5, none⟩ = some (.int .i64 s) ∧ w'.cell? ⟨w.heap.size, 6, none⟩ = some (.int .i64 g.n) ∧ w'.cell? ⟨w.heap.size, 7, none⟩ = some (.string g.r)) (by kernel_rfl) ⟨(c_a1 0), (c_a1 1), (c_a1 2), (c_a1 3), (c_a1 4), (c_a1 5), (c_a1 6), (c_a1 7)⟩ (fun hHeld => ?_)
 refine Ke.q 0 ?_; try simp only [Act.put, pq]
 refine Ke.q 1 ?_; try simp only [Act.put, pq]
 refine Ke.q 2 ?_; try simp only [Act.put, pq]
 refine Ke.q 3 ?_; try simp only [Act.put, pq]
 refine Ke.q 5 ?_; try simp only [Act.put, pq]
 refine Ke.q 6 ?_; try simp only [Act.put, pq]
 refine Ke.z 4 rfl (fun K hK => ?_)
 go_simp
 refine (q1 W1.drew _ _ (Sl.later (w := W1) (HS.out.later B1.out) (Below.drew (Below.refl _ _))) (Sl.later (w := W1) (HSB.out.later B1.out) (Below.drew (Below.refl _ _)))).mono ?_
 rintro e W2 ⟨v_s, v_p, rfl, o_s2, o_p2, b2⟩
 have b2 : Below W1.heap.size W1 W2 := (Below.drew (Below.refl _ _)).trans b2
 have o_s2 : Own W2 W1.heap.size W2.heap.size 9 _ _ := o_s2
 have o_p2 : Own W2 W1.heap.size W2.heap.size 5 _ _ := o_p2
 refine hK.out _ _ ⟨(keepR (W := W1) hHeld.1 b2), (keepR (W := W1) hHeld.2.1 b2), (keepR (W := W1) hHeld.2.2.1 b2), (keepR (W := W1) hHeld.2.2.2.1 b2), (keepR (W := W1) hHeld.2.2.2.2.1 b2), (keepR (W := W1) hHeld.2.2.2.2.2.1 b2), (keepR (W := W1) hHeld.2.2.2.2.2.2.1 b2), (keepR (W := W1) hHeld.2.2.2.2.2.2.2 b2)⟩ (fun hHeld => ?_)
 clear hK K
 try simp only [Act.put, pq]
 obtain ⟨lo_s, hi_s, lo_p, hi_p, d1_s, d2_s, d3_s, d4_s, d5_s, d6_s, d7_s, oo_s, oo_p⟩ := Sr.pairN o_s2 o_p2 b2.size
 clear o_s2 o_p2
 obtain ⟨ao_s, L_s, cap_s, rfl, _, _⟩ := oo_s.form
 obtain ⟨ao_p, L_p, cap_p, rfl, _, _⟩ := oo_p.form
 have o_s2 : Hid (Own W2 lo_s hi_s 9 (.slice ao_s L_s cap_s) (ss l)) := oo_s
 have o_p2 : Hid (Own W2 lo_p hi_p 5 (.slice ao_p L_p cap_p) (bs b)) := oo_p
 clear oo_s oo_p
 have z2 := b2.size
 have B2 := Ke.b B1 b2
 have r_res2 := Ke.r r_res1 b2
 clear r_a1 c_a1 r_res1
 refine Ke.z 7 rfl (fun K hK => ?_)
 go_simp
 refine (q2 W2).mono ?_
 rintro e W3 ⟨rfl, b3⟩
 refine hK.out _ _ ⟨(keepR (W := W2) hHeld.1 b3), (keepR (W := W2) hHeld.2.1 b3), (keepR (W := W2) hHeld.2.2.1 b3), (keepR (W := W2) hHeld.2.2.2.1 b3), (keepR (W := W2) hHeld.2.2.2.2.1 b3), (keepR (W := W2) hHeld.2.2.2.2.2.1 b3), (keepR (W := W2) hHeld.2.2.2.2.2.2.1 b3), (keepR (W := W2) hHeld.2.2.2.2.2.2.2 b3)⟩ (fun hHeld => ?_)
 clear hK K
 try simp only [Act.put, pq]
 have z3 := b3.size
 have B3 := Ke.b B2 b3
 have r_res3 := Ke.r r_res2 b3
 have o_s3 := Ke.o o_s2 b3
 have o_p3 := Ke.o o_p2 b3
 clear r_res2 o_s2 o_p2
 refine Ke.q 8 ?_; try simp only [Act.put, pq]
 refine Ke.z 9 rfl (fun K hK => ?_)
 rw [if_pos (by rfl)]
 refine wp_store_row 32 _ _ rfl (w.heap.size + 1) (mq id (.slice ao_s L_s cap_s) h (.slice ao_p L_p cap_p) s g) rfl rfl 32 _ r_res3.out (sizeQ _ _ _ _ _ _) rfl (oneQ _ _ _ _ rfl rfl) ?_
 refine hK.out _ _ ⟨(cell_row (by show w.heap.size ≠ w.heap.size + 1; omega) hHeld.1), (cell_row (by show w.heap.size ≠ w.heap.size + 1; omega) hHeld.2.1), (cell_row (by show w.heap.size ≠ w.heap.size + 1; omega) hHeld.2.2.1), (cell_row (by show w.heap.size ≠ w.heap.size + 1; omega) hHeld.2.2.2.1), (cell_row (by show w.heap.size ≠ w.heap.size + 1; omega) hHeld.2.2.2.2.1), (cell_row (by show w.heap.size ≠ w.heap.size + 1; omega) hHeld.2.2.2.2.2.1), (cell_row (by show w.heap.size ≠ w.heap.size + 1; omega) hHeld.2.2.2.2.2.2.1), (cell_row (by show w.heap.size ≠ w.heap.size + 1; omega) hHeld.2.2.2.2.2.2.2)⟩ (fun hHeld => ?_)
 clear hK K
 refine wpAnyH_done (by kernel_rfl) ?_ _
 clear hHeld
 go_wp2
 exact bodyPost_ret (v := .agg (mq id (.slice ao_s L_s cap_s) h (.slice ao_p L_p cap_p) s g)) (results_cell_row rfl _ _ (w.heap.size + 1) 32 _ (0, 0) _ rfl (setRow_heap _ _ _ _ _ (0, 0) r_res3.out) Tryz.underlying32 rfl (sizeQ _ _ _ _ _ _)) rfl ⟨_, _, rfl, (Own.setRow o_s3.out _ (by omega)).mono (by omega) (by rw [size_setRow]; omega), (Own.setRow o_p3.out _ (by omega)).mono (by omega) (by rw [size_setRow]; omega), below_setRow B3.out (by omega) _⟩
set_option maxRecDepth 1000000 in
theorem asking_impl (w : World) (v vb : Value) (m : Mr) (to : Int) (hgr : m.b.r.size ≤ 1000000000000) (hs : Sl w v (ss m.st.l)) (hb : Sl w vb (bs m.st.b)) :
  Calls Tryz.prog 71 #[.agg #[.int .i64 m.id, v, .int .i64 m.st.h.n, .string m.st.h.r, vb, .int .i64 m.st.s, .int .i64 m.b.n, .string m.b.r], .int .i64 to] w fun e w' => ∃ v', e = .returned v' ∧ Om w' w.heap.size w'.heap.size v' (ask1 m to) ∧ Below w.heap.size w w' := by
 obtain ⟨R, hR⟩ : ∃ R, ask1 m to = R := ⟨_, rfl⟩
 have HR : Hid (ask1 m to = R) := hR
 rw [hR]
 obtain ⟨id, ⟨l, h, b, s⟩, g⟩ := m
 simp only at *
 have HS : Hid (Sl w v (ss l)) := hs
 have HSB : Hid (Sl w vb (bs b)) := hb
 obtain ⟨ao0, cap0, rfl, hc0⟩ := hs.form
 obtain ⟨ao1, cap1, rfl, hc1⟩ := hb.form
 simp only [ss_len, bs_len] at *
 clear hs hb hR
 have B0 : Hid (Below w.heap.size w w) := Below.refl _ _
 obtain ⟨W1, HW1, b1, y1, hS1, r_a1⟩ := Ke.l1 w #[.int .i64 id, .slice ao0 l.length cap0, .int .i64 h.n, .string h.r, .slice ao1 b.length cap1, .int .i64 s, .int .i64 g.n, .string g.r] 32
 have z1 := b1.size
 have B1 := Ke.b B0 b1
 have c_a1 := Ke.c r_a1
 have q1 : ∀ W, _ := fun W => own_impl W g hgr
 go_enter Tryz.func71, Tryz.ntmps71
 by_cases hle : g.n ≤ (l.length : Int)
 ·have HN : Hid (R = []) := by show _ = _; rw [← HR.out]; unfold ask1; simp only; rw [if_neg (by omega)]
  go_wp2_with fail
  rw [HW1.out]
  go_ret
  refine ⟨_, rfl, ?_, B1.out⟩
  rw [HN.out]
  exact Om.nil _ _ _ _ _
 ·have HN : Hid (R = [⟨2, id, to, g, (l.length : Int), []⟩]) := by show _ = _; rw [← HR.out]; unfold ask1; simp only; rw [if_pos (by omega)]
  go_wp2_with fail
  rw [HW1.out]
  refine wp_region_held_drew (S := fun w' => w'.cell? ⟨w.heap.size, 0, none⟩ = some (.int .i64 id) ∧ w'.cell? ⟨w.heap.size, 1, none⟩ = some (.slice ao0 l.length cap0) ∧ w'.cell? ⟨w.heap.size, 2, none⟩ = some (.int .i64 h.n) ∧ w'.cell? ⟨w.heap.size, 3, none⟩ = some (.string h.r) ∧ w'.cell? ⟨w.heap.size, 4, none⟩ = some (.slice ao1 b.length cap1) ∧ w'.cell? ⟨w.heap.size, 5, none⟩ = some (.int .i64 s) ∧ w'.cell? ⟨w.heap.size, 6, none⟩ = some (.int .i64 g.n) ∧ w'.cell? ⟨w.heap.size, 7, none⟩ = some (.string g.r)) (by kernel_rfl) ⟨(c_a1 0), (c_a1 1), (c_a1 2), (c_a1 3), (c_a1 4), (c_a1 5), (c_a1 6), (c_a1 7)⟩ (fun hHeld => ?_)
  refine Ke.q 0 ?_; try simp only [Act.put, pq]
  refine Ke.q 1 ?_; try simp only [Act.put, pq]
  refine Ke.q 2 ?_; try simp only [Act.put, pq]
  refine Ke.q 3 ?_; try simp only [Act.put, pq]
  refine Ke.q 4 ?_; try simp only [Act.put, pq]
  refine Ke.q 6 ?_; try simp only [Act.put, pq]
  refine Ke.z 5 rfl (fun K hK => ?_)
  go_simp
  refine (q1 W1.drew).mono ?_
  rintro e W2 ⟨rfl, b2⟩
  have b2 : Below W1.heap.size W1 W2 := (Below.drew (Below.refl _ _)).trans b2
  refine hK.out _ _ ⟨(keepR (W := W1) hHeld.1 b2), (keepR (W := W1) hHeld.2.1 b2), (keepR (W := W1) hHeld.2.2.1 b2), (keepR (W := W1) hHeld.2.2.2.1 b2), (keepR (W := W1) hHeld.2.2.2.2.1 b2), (keepR (W := W1) hHeld.2.2.2.2.2.1 b2), (keepR (W := W1) hHeld.2.2.2.2.2.2.1 b2), (keepR (W := W1) hHeld.2.2.2.2.2.2.2 b2)⟩ (fun hHeld => ?_)
  clear hK K
  try simp only [Act.put, pq]
  have z2 := b2.size
  have B2 := Ke.b B1 b2
  clear r_a1 c_a1
  refine Ke.q 7 ?_; try simp only [Act.put, pq]
  refine Ke.z 8 rfl (fun K hK => ?_)
  go_simp
  refine hK.out _ _ ⟨(keepR (W := W2) hHeld.1 ((Below.refl _ _).alloc (Nat.le_refl _) _)), (keepR (W := W2) hHeld.2.1 ((Below.refl _ _).alloc (Nat.le_refl _) _)), (keepR (W := W2) hHeld.2.2.1 ((Below.refl _ _).alloc (Nat.le_refl _) _)), (keepR (W := W2) hHeld.2.2.2.1 ((Below.refl _ _).alloc (Nat.le_refl _) _)), (keepR (W := W2) hHeld.2.2.2.2.1 ((Below.refl _ _).alloc (Nat.le_refl _) _)), (keepR (W := W2) hHeld.2.2.2.2.2.1 ((Below.refl _ _).alloc (Nat.le_refl _) _)), (keepR (W := W2) hHeld.2.2.2.2.2.2.1 ((Below.refl _ _).alloc (Nat.le_refl _) _)), (keepR (W := W2) hHeld.2.2.2.2.2.2.2 ((Below.refl _ _).alloc (Nat.le_refl _) _))⟩ (fun hHeld => ?_)
  clear hK K
  try simp only [Act.put, pq]
  obtain ⟨W3, HW3, b3, ff3⟩ : ∃ X, Hid ((W2.alloc (.cells #[.int .i64 2, .int .i64 id, .int .i64 to, .int .i64 g.n, .string g.r, .int .i64 (l.length : Int), .slice none 0 0] 35)) = X) ∧ Below W2.heap.size W2 X ∧ Hid (Om X w.heap.size X.heap.size (.slice (some ⟨W2.heap.size, 0, none⟩) 1 1) [⟨2, id, to, g, (l.length : Int), []⟩]) := ⟨_, rfl, ((Below.refl _ _).alloc (Nat.le_refl _) _), Om.one0 ⟨2, id, to, g, (l.length : Int), []⟩ rfl (by omega)⟩
  have HHW3 := HW3.out
  rw [HHW3] at hHeld ⊢
  clear HHW3
  have z3 := b3.size
  have B3 := Ke.b B2 b3
  have f_om3 : Hid (Om W3 w.heap.size W3.heap.size (.slice (some ⟨W2.heap.size, 0, none⟩) 1 1) [⟨2, id, to, g, (l.length : Int), []⟩]) := ff3.out
  clear ff3
  refine Ke.q 9 ?_; try simp only [Act.put, pq]
  refine wpAnyH_done (by kernel_rfl) ?_ _
  clear hHeld
  go_wp2
  go_ret
  refine ⟨_, rfl, ?_, B3.out⟩
  rw [HN.out]
  exact f_om3.out
end Go.Proofs.YtchonoonclllbaaGreatDoor.Mi
namespace Go.Proofs.YtchonoonclllbaaGreatDoor.Is
open Go.RowKit Go.Extern.Stop Go.Stop Go.Extern
set_option maxRecDepth 1000000 in
theorem is_nil (b : Addr) (w : World) :
  Calls Tryz.prog 179 #[.nilIface, .iface 238 (.pointer (some b))] w fun e w' => e = .returned (.bool false) ∧ Below w.heap.size w w' := by
 have hnl := run_eql_iface_nil_left (P := Tryz.prog) w 238 (.pointer (some b)) Tryz.underlying173
 go_enter Tryz.func179, Tryz.ntmps179
 go_wp2
 go_ret
 exact ⟨rfl, Below.refl _ _⟩
def Four (w : World) (a0 a1 a2 a3 : Addr) : Prop := At w 1 a0 ∧ At w 2 a1 ∧ At w 3 a2 ∧ At w 4 a3 ∧ a0 ≠ a1 ∧ a0 ≠ a2 ∧ a0 ≠ a3 ∧ a1 ≠ a2 ∧ a1 ≠ a3 ∧ a2 ≠ a3
theorem Four.later {w w' : World} {a0 a1 a2 a3 : Addr} (h : Four w a0 a1 a2 a3) (b : Below w.heap.size w w') : Four w' a0 a1 a2 a3 := by
 obtain ⟨h0, h1, h2, h3, hn⟩ := h
 exact ⟨h0.later b, h1.later b, h2.later b, h3.later b, hn⟩
abbrev refV (n : Int) (r : ByteArray) (a : Addr) : Value := .iface 206 (.agg #[.int .i64 n, .string r, .iface 238 (.pointer (some a))])
theorem At.is_other {w : World} {g g' : Nat} {a b : Addr} (n : Int) (r : ByteArray) (ha : At w g a) (hb : At w g' b) (hne : a ≠ b) :
  Calls Tryz.prog 179 #[refV n r a, .iface 238 (.pointer (some b))] w fun e w' => e = .returned (.bool false) ∧ Below w.heap.size w w' := by
 obtain ⟨_, ca, ta, h1⟩ := ha
 obtain ⟨_, cb, tb, h2⟩ := hb
 exact Is.is_other n r a b ca cb ta tb w hne h1 h2
set_option maxRecDepth 1000000 in
theorem code1 (w : World) (n : Int) (r : ByteArray) {a0 a1 a2 a3 : Addr} (h : Four w a0 a1 a2 a3) : Calls Tryz.prog 149 #[refV n r a0] w fun e w' => e = .returned (.int .i64 1) ∧ Below w.heap.size w w' := by
 obtain ⟨A0, A1, A2, A3, h01, h02, h03, h12, h13, h23⟩ := h
 have c0 := A0.1
 have B0 : Hid (Below w.heap.size w w) := Below.refl _ _
 have A0 : Hid (At w 1 a0) := A0
 have A1 : Hid (At w 2 a1) := A1
 have A2 : Hid (At w 3 a2) := A2
 have A3 : Hid (At w 4 a3) := A3
 have h01 : Hid (a0 ≠ a1) := h01
 have h02 : Hid (a0 ≠ a2) := h02
 have h03 : Hid (a0 ≠ a3) := h03
 have h12 : Hid (a1 ≠ a2) := h12
 have h13 : Hid (a1 ≠ a3) := h13
 have h23 : Hid (a2 ≠ a3) := h23
 go_enter Tryz.func149, Tryz.ntmps149
 go_wp2_with fail
 refine (is_same n r a0 w).mono ?_
 rintro e W1 ⟨rfl, b1⟩
 have B1 : Hid (Below w.heap.size w W1) := B0.out.trans (b1.mono B0.out.size)
 clear b1
 go_wp2
 go_ret
 exact ⟨rfl, B1.out⟩
set_option maxRecDepth 1000000 in
theorem code2 (w : World) (n : Int) (r : ByteArray) {a0 a1 a2 a3 : Addr} (h : Four w a0 a1 a2 a3) : Calls Tryz.prog 149 #[refV n r a1] w fun e w' => e = .returned (.int .i64 2) ∧ Below w.heap.size w w' := by
 obtain ⟨A0, A1, A2, A3, h01, h02, h03, h12, h13, h23⟩ := h
 have c0 := A0.1
 have c1 := A1.1
 have B0 : Hid (Below w.heap.size w w) := Below.refl _ _
 have A0 : Hid (At w 1 a0) := A0
 have A1 : Hid (At w 2 a1) := A1
 have A2 : Hid (At w 3 a2) := A2
 have A3 : Hid (At w 4 a3) := A3
 have h01 : Hid (a0 ≠ a1) := h01
 have h02 : Hid (a0 ≠ a2) := h02
 have h03 : Hid (a0 ≠ a3) := h03
 have h12 : Hid (a1 ≠ a2) := h12
 have h13 : Hid (a1 ≠ a3) := h13
 have h23 : Hid (a2 ≠ a3) := h23
 go_enter Tryz.func149, Tryz.ntmps149
 go_wp2_with fail
 refine (At.is_other (w := w) n r (A1.out.later B0.out) (A0.out.later B0.out) h01.out.symm).mono ?_
 rintro e W1 ⟨rfl, b1⟩
 have B1 : Hid (Below w.heap.size w W1) := B0.out.trans (b1.mono B0.out.size)
 have c1 : W1.cell? ⟨2, 0, none⟩ = some (.iface 238 (.pointer (some a1))) := (A1.out.later B1.out).1
 clear b1
 go_wp2_with fail
 refine (is_same n r a1 W1).mono ?_
 rintro e W2 ⟨rfl, b2⟩
 have B2 : Hid (Below w.heap.size w W2) := B1.out.trans (b2.mono B1.out.size)
 clear b2
 go_wp2
 go_ret
 exact ⟨rfl, B2.out⟩
set_option maxRecDepth 1000000 in
theorem code3 (w : World) (n : Int) (r : ByteArray) {a0 a1 a2 a3 : Addr} (h : Four w a0 a1 a2 a3) : Calls Tryz.prog 149 #[refV n r a2] w fun e w' => e = .returned (.int .i64 3) ∧ Below w.heap.size w w' := by
 obtain ⟨A0, A1, A2, A3, h01, h02, h03, h12, h13, h23⟩ := h
 have c0 := A0.1
 have c1 := A1.1
 have c2 := A2.1
 have B0 : Hid (Below w.heap.size w w) := Below.refl _ _
 have A0 : Hid (At w 1 a0) := A0
 have A1 : Hid (At w 2 a1) := A1
 have A2 : Hid (At w 3 a2) := A2
 have A3 : Hid (At w 4 a3) := A3
 have h01 : Hid (a0 ≠ a1) := h01
 have h02 : Hid (a0 ≠ a2) := h02
 have h03 : Hid (a0 ≠ a3) := h03
 have h12 : Hid (a1 ≠ a2) := h12
 have h13 : Hid (a1 ≠ a3) := h13
 have h23 : Hid (a2 ≠ a3) := h23
 go_enter Tryz.func149, Tryz.ntmps149
 go_wp2_with fail
 refine (At.is_other (w := w) n r (A2.out.later B0.out) (A0.out.later B0.out) h02.out.symm).mono ?_
 rintro e W1 ⟨rfl, b1⟩
 have B1 : Hid (Below w.heap.size w W1) := B0.out.trans (b1.mono B0.out.size)
 have c1 : W1.cell? ⟨2, 0, none⟩ = some (.iface 238 (.pointer (some a1))) := (A1.out.later B1.out).1
 have c2 : W1.cell? ⟨3, 0, none⟩ = some (.iface 238 (.pointer (some a2))) := (A2.out.later B1.out).1
 clear b1
 go_wp2_with fail
 refine (At.is_other (w := W1) n r (A2.out.later B1.out) (A1.out.later B1.out) h12.out.symm).mono ?_
 rintro e W2 ⟨rfl, b2⟩
 have B2 : Hid (Below w.heap.size w W2) := B1.out.trans (b2.mono B1.out.size)
 have c2 : W2.cell? ⟨3, 0, none⟩ = some (.iface 238 (.pointer (some a2))) := (A2.out.later B2.out).1
 clear b2
 go_wp2_with fail
 refine (is_same n r a2 W2).mono ?_
 rintro e W3 ⟨rfl, b3⟩
 have B3 : Hid (Below w.heap.size w W3) := B2.out.trans (b3.mono B2.out.size)
 clear b3
 go_wp2
 go_ret
 exact ⟨rfl, B3.out⟩
set_option maxRecDepth 1000000 in
theorem code4 (w : World) (n : Int) (r : ByteArray) {a0 a1 a2 a3 : Addr} (h : Four w a0 a1 a2 a3) : Calls Tryz.prog 149 #[refV n r a3] w fun e w' => e = .returned (.int .i64 4) ∧ Below w.heap.size w w' := by
 obtain ⟨A0, A1, A2, A3, h01, h02, h03, h12, h13, h23⟩ := h
 have c0 := A0.1
 have c1 := A1.1
 have c2 := A2.1
 have c3 := A3.1
 have B0 : Hid (Below w.heap.size w w) := Below.refl _ _
 have A0 : Hid (At w 1 a0) := A0
 have A1 : Hid (At w 2 a1) := A1
 have A2 : Hid (At w 3 a2) := A2
 have A3 : Hid (At w 4 a3) := A3
 have h01 : Hid (a0 ≠ a1) := h01
 have h02 : Hid (a0 ≠ a2) := h02
 have h03 : Hid (a0 ≠ a3) := h03
 have h12 : Hid (a1 ≠ a2) := h12
 have h13 : Hid (a1 ≠ a3) := h13
 have h23 : Hid (a2 ≠ a3) := h23
 go_enter Tryz.func149, Tryz.ntmps149
 go_wp2_with fail
 refine (At.is_other (w := w) n r (A3.out.later B0.out) (A0.out.later B0.out) h03.out.symm).mono ?_
 rintro e W1 ⟨rfl, b1⟩
 have B1 : Hid (Below w.heap.size w W1) := B0.out.trans (b1.mono B0.out.size)
 have c1 : W1.cell? ⟨2, 0, none⟩ = some (.iface 238 (.pointer (some a1))) := (A1.out.later B1.out).1
 have c2 : W1.cell? ⟨3, 0, none⟩ = some (.iface 238 (.pointer (some a2))) := (A2.out.later B1.out).1
 have c3 : W1.cell? ⟨4, 0, none⟩ = some (.iface 238 (.pointer (some a3))) := (A3.out.later B1.out).1
 clear b1
 go_wp2_with fail
 refine (At.is_other (w := W1) n r (A3.out.later B1.out) (A1.out.later B1.out) h13.out.symm).mono ?_
 rintro e W2 ⟨rfl, b2⟩
 have B2 : Hid (Below w.heap.size w W2) := B1.out.trans (b2.mono B1.out.size)
 have c2 : W2.cell? ⟨3, 0, none⟩ = some (.iface 238 (.pointer (some a2))) := (A2.out.later B2.out).1
 have c3 : W2.cell? ⟨4, 0, none⟩ = some (.iface 238 (.pointer (some a3))) := (A3.out.later B2.out).1
 clear b2
 go_wp2_with fail
 refine (At.is_other (w := W2) n r (A3.out.later B2.out) (A2.out.later B2.out) h23.out.symm).mono ?_
 rintro e W3 ⟨rfl, b3⟩
 have B3 : Hid (Below w.heap.size w W3) := B2.out.trans (b3.mono B2.out.size)
 have c3 : W3.cell? ⟨4, 0, none⟩ = some (.iface 238 (.pointer (some a3))) := (A3.out.later B3.out).1
 clear b3
 go_wp2_with fail
 refine (is_same n r a3 W3).mono ?_
 rintro e W4 ⟨rfl, b4⟩
 have B4 : Hid (Below w.heap.size w W4) := B3.out.trans (b4.mono B3.out.size)
 clear b4
 go_wp2
 go_ret
 exact ⟨rfl, B4.out⟩
set_option maxRecDepth 1000000 in
theorem code0 (w : World) {a0 a1 a2 a3 : Addr} (h : Four w a0 a1 a2 a3) : Calls Tryz.prog 149 #[.nilIface] w fun e w' => e = .returned (.int .i64 0) ∧ Below w.heap.size w w' := by
 obtain ⟨A0, A1, A2, A3, h01, h02, h03, h12, h13, h23⟩ := h
 have c0 := A0.1
 have c1 := A1.1
 have c2 := A2.1
 have c3 := A3.1
 have B0 : Hid (Below w.heap.size w w) := Below.refl _ _
 have A0 : Hid (At w 1 a0) := A0
 have A1 : Hid (At w 2 a1) := A1
 have A2 : Hid (At w 3 a2) := A2
 have A3 : Hid (At w 4 a3) := A3
 have h01 : Hid (a0 ≠ a1) := h01
 have h02 : Hid (a0 ≠ a2) := h02
 have h03 : Hid (a0 ≠ a3) := h03
 have h12 : Hid (a1 ≠ a2) := h12
 have h13 : Hid (a1 ≠ a3) := h13
 have h23 : Hid (a2 ≠ a3) := h23
 go_enter Tryz.func149, Tryz.ntmps149
 go_wp2_with fail
 refine (is_nil a0 w).mono ?_
 rintro e W1 ⟨rfl, b1⟩
 have B1 : Hid (Below w.heap.size w W1) := B0.out.trans (b1.mono B0.out.size)
 have c1 : W1.cell? ⟨2, 0, none⟩ = some (.iface 238 (.pointer (some a1))) := (A1.out.later B1.out).1
 have c2 : W1.cell? ⟨3, 0, none⟩ = some (.iface 238 (.pointer (some a2))) := (A2.out.later B1.out).1
 have c3 : W1.cell? ⟨4, 0, none⟩ = some (.iface 238 (.pointer (some a3))) := (A3.out.later B1.out).1
 clear b1
 go_wp2_with fail
 refine (is_nil a1 W1).mono ?_
 rintro e W2 ⟨rfl, b2⟩
 have B2 : Hid (Below w.heap.size w W2) := B1.out.trans (b2.mono B1.out.size)
 have c2 : W2.cell? ⟨3, 0, none⟩ = some (.iface 238 (.pointer (some a2))) := (A2.out.later B2.out).1
 have c3 : W2.cell? ⟨4, 0, none⟩ = some (.iface 238 (.pointer (some a3))) := (A3.out.later B2.out).1
 clear b2
 go_wp2_with fail
 refine (is_nil a2 W2).mono ?_
 rintro e W3 ⟨rfl, b3⟩
 have B3 : Hid (Below w.heap.size w W3) := B2.out.trans (b3.mono B2.out.size)
 have c3 : W3.cell? ⟨4, 0, none⟩ = some (.iface 238 (.pointer (some a3))) := (A3.out.later B3.out).1
 clear b3
 go_wp2_with fail
 refine (is_nil a3 W3).mono ?_
 rintro e W4 ⟨rfl, b4⟩
 have B4 : Hid (Below w.heap.size w W4) := B3.out.trans (b4.mono B3.out.size)
 clear b4
 go_wp2
 go_ret
 exact ⟨rfl, B4.out⟩
end Go.Proofs.YtchonoonclllbaaGreatDoor.Is
namespace Go.Proofs.YtchonoonclllbaaGreatDoor.Mi
open Go.RowKit Mem Laws Bytes Sha Tr He Lg Sr Mg
set_option maxRecDepth 1000000 in
theorem withbest_impl (w : World) (v vb : Value) (m : Mr) (hq : Hd) (hqr : hq.r.size ≤ 1000000000000) (hs : Sl w v (ss m.st.l)) (hb : Sl w vb (bs m.st.b)) :
  Calls Tryz.prog 133 #[.agg #[.int .i64 m.id, v, .int .i64 m.st.h.n, .string m.st.h.r, vb, .int .i64 m.st.s, .int .i64 m.b.n, .string m.b.r], .agg #[.int .i64 hq.n, .string hq.r]] w fun e w' => e = .returned (.agg #[.int .i64 m.id, v, .int .i64 m.st.h.n, .string m.st.h.r, vb, .int .i64 m.st.s, .int .i64 (better m hq).b.n, .string (better m hq).b.r]) ∧ Below w.heap.size w w' := by
 obtain ⟨R, hR⟩ : ∃ R, (better m hq).b = R := ⟨_, rfl⟩
 have HR : Hid ((better m hq).b = R) := hR
 rw [hR]
 obtain ⟨id, ⟨l, h, b, s⟩, g⟩ := m
 simp only at *
 obtain ⟨ao0, cap0, rfl, hc0⟩ := hs.form
 obtain ⟨ao1, cap1, rfl, hc1⟩ := hb.form
 simp only [ss_len, bs_len] at *
 clear hs hb hR
 have B0 : Hid (Below w.heap.size w w) := Below.refl _ _
 obtain ⟨W1, HW1, b1, y1, hS1, r_a1, r_h1, r_res1⟩ := Ke.l3 w #[.int .i64 id, .slice ao0 l.length cap0, .int .i64 h.n, .string h.r, .slice ao1 b.length cap1, .int .i64 s, .int .i64 g.n, .string g.r] 32 #[.int .i64 hq.n, .string hq.r] 26 #[.int .i64 0, .slice none 0 0, .int .i64 0, .string ⟨#[]⟩, .slice none 0 0, .int .i64 0, .int .i64 0, .string ⟨#[]⟩] 32
 have z1 := b1.size
 have B1 := Ke.b B0 b1
 have c_a1 := Ke.c r_a1
 have c_h1 := Ke.c r_h1
 have c_res1 := Ke.c r_res1
 have q1 : ∀ W, _ := fun W => own_impl W hq hqr
 go_enter Tryz.func133, Tryz.ntmps133
 by_cases hb : g.n < hq.n
 ·have HN : Hid (R = hq) := by show _ = _; rw [← HR.out]; unfold better; simp only; rw [if_pos hb]
  go_wp2_with fail
  rw [HW1.out]
  refine (q1 W1).mono ?_
  rintro e W2 ⟨rfl, b2⟩
  have z2 := b2.size
  have B2 := Ke.b B1 b2
  have r_a2 := Ke.r r_a1 b2
  have r_h2 := Ke.r r_h1 b2
  have r_res2 := Ke.r r_res1 b2
  have c_a2 := Ke.c r_a2
  have c_h2 := Ke.c r_h2
  have c_res2 := Ke.c r_res2
  clear r_a1 c_a1 r_h1 c_h1 r_res1 c_res1
  go_wp2_with (refine wpl_partG rfl 26 _ _ rfl (w.heap.size) 6 (hc hq) rfl rfl [.int .i64 id, .slice ao0 l.length cap0, .int .i64 h.n, .string h.r, .slice ao1 b.length cap1, .int .i64 s, .int .i64 g.n, .string g.r] 32 r_a2.out (Nat.le_of_ble_eq_true rfl) (sizeH _) (oneH _) [.int .i64 id, .slice ao0 l.length cap0, .int .i64 h.n, .string h.r, .slice ao1 b.length cap1, .int .i64 s, .int .i64 hq.n, .string hq.r] rfl ?_)
  intro W3 r_a3 g3
  have r_a3 := Ke.h r_a3
  have z3 := g3.size
  have B3 := Ke.i B2 g3
  have r_h3 := Ke.s r_h2 g3
  have r_res3 := Ke.s r_res2 g3
  have c_a3 := Ke.c r_a3
  have c_h3 := Ke.c r_h3
  have c_res3 := Ke.c r_res3
  clear r_h2 c_h2 r_res2 c_res2
  clear r_a2 c_a2
  clear g3
  go_wp2_with (first | (refine wpList_load_row rfl 32 _ rfl (w.heap.size) rfl 32 (mq id (.slice ao0 l.length cap0) h (.slice ao1 b.length cap1) s hq) (0, 0) _ r_a3.out Tryz.underlying32 rfl (sizeQ _ _ _ _ _ _) ?_) | (refine wpList_store_row rfl 32 _ _ rfl (w.heap.size + 1 + 1) (mq id (.slice ao0 l.length cap0) h (.slice ao1 b.length cap1) s hq) rfl rfl 32 _ r_res3.out (sizeQ _ _ _ _ _ _) rfl (oneQ _ _ _ _ rfl rfl) ?_))
  refine bodyPost_ret (v := .agg (mq id (.slice ao0 l.length cap0) h (.slice ao1 b.length cap1) s hq)) (results_cell_row rfl _ _ (w.heap.size + 1 + 1) 32 _ (0, 0) _ rfl (setRow_heap _ _ _ _ _ (0, 0) r_res3.out) Tryz.underlying32 rfl (sizeQ _ _ _ _ _ _)) rfl ⟨by rw [HN.out]; rfl, below_setRow B3.out (by omega) _⟩
 ·have HN : Hid (R = g) := by show _ = _; rw [← HR.out]; unfold better; simp only; rw [if_neg hb]
  go_wp2_with (first | ((try rw [HW1.out]); refine wpList_load_row rfl 32 _ rfl (w.heap.size) rfl 32 (mq id (.slice ao0 l.length cap0) h (.slice ao1 b.length cap1) s g) (0, 0) _ r_a1.out Tryz.underlying32 rfl (sizeQ _ _ _ _ _ _) ?_) | ((try rw [HW1.out]); refine wpList_store_row rfl 32 _ _ rfl (w.heap.size + 1 + 1) (mq id (.slice ao0 l.length cap0) h (.slice ao1 b.length cap1) s g) rfl rfl 32 _ r_res1.out (sizeQ _ _ _ _ _ _) rfl (oneQ _ _ _ _ rfl rfl) ?_))
  refine bodyPost_ret (v := .agg (mq id (.slice ao0 l.length cap0) h (.slice ao1 b.length cap1) s g)) (results_cell_row rfl _ _ (w.heap.size + 1 + 1) 32 _ (0, 0) _ rfl (setRow_heap _ _ _ _ _ (0, 0) r_res1.out) Tryz.underlying32 rfl (sizeQ _ _ _ _ _ _)) rfl ⟨by rw [HN.out]; rfl, below_setRow B1.out (by omega) _⟩
set_option maxRecDepth 1000000 in
theorem hearhead_impl (w : World) (lo : Nat) (v vb vt vx : Value) (m : Mr) (t : List Hd) (q : Ms) {a0 a1 a2 a3 : Addr} (hG : Glob w) (hF : Is.Four w a0 a1 a2 a3) (hlo : lo ≤ w.heap.size) (h9 : Own w lo w.heap.size 9 v (ss m.st.l)) (h5 : Own w lo w.heap.size 5 vb (bs m.st.b)) (hst : Sh w vt t) (hx : Sl w vx (ss q.x)) (hl : m.st.l.length ≤ 1000000000) (hbl : m.st.b.length ≤ 1000000000) (htl : t.length ≤ 1000000000) (hxl : q.x.length ≤ 1000000000) (hz : ∀ s ∈ m.st.l, s.size ≤ 10000000000) (hzx : ∀ s ∈ q.x, s.size ≤ 10000000000) (htx : Puts.tot q.x ≤ 100000000000) (hdr : q.h.r.size ≤ 100000000000) (hhr : m.st.h.r.size ≤ 1000000000000) (hgr : m.b.r.size ≤ 1000000000000) (hok : msgOk q = true) (hti : q.t = m.id) (hk : q.k = 1) :
  Calls Tryz.prog 87 #[.agg #[.int .i64 m.id, v, .int .i64 m.st.h.n, .string m.st.h.r, vb, .int .i64 m.st.s, .int .i64 m.b.n, .string m.b.r], vt, .agg #[.int .i64 q.k, .int .i64 q.f, .int .i64 q.t, .int .i64 q.h.n, .string q.h.r, .int .i64 q.n, vx]] w fun e w' => ∃ v' vb' vq mid, e = .returned (.tuple #[.agg #[.int .i64 (hear1 m t q).1.id, v', .int .i64 (hear1 m t q).1.st.h.n, .string (hear1 m t q).1.st.h.r, vb', .int .i64 (hear1 m t q).1.st.s, .int .i64 (hear1 m t q).1.b.n, .string (hear1 m t q).1.b.r], vq]) ∧ w.heap.size ≤ mid ∧ mid ≤ w'.heap.size ∧ Own w' lo mid 9 v' (ss (hear1 m t q).1.st.l) ∧ Own w' lo mid 5 vb' (bs (hear1 m t q).1.st.b) ∧ Om w' mid w'.heap.size vq (hear1 m t q).2 ∧ Below w.heap.size w w' := by
 obtain ⟨R, hR⟩ : ∃ R, hear1 m t q = R := ⟨_, rfl⟩
 have HR : Hid (hear1 m t q = R) := hR
 rw [hR]
 obtain ⟨id, ⟨l, h, b, s⟩, g⟩ := m
 obtain ⟨k, f, tt, hq, n, x⟩ := q
 simp only at *
 have HOK : Hid (msgOk ⟨k, f, tt, hq, n, x⟩ = true) := hok
 have HTI : Hid (tt = id) := hti
 have HK : Hid (k = 1) := hk
 have HS : Hid (Sl w v (ss l)) := h9.sl
 have HSB : Hid (Sl w vb (bs b)) := h5.sl
 have HT : Hid (Sh w vt t) := hst
 have HX : Hid (Sl w vx (ss x)) := hx
 have HG : Hid (Glob w) := hG
 have HF : Hid (Is.Four w a0 a1 a2 a3) := hF
 obtain ⟨ao2, cap2, rfl, hc2⟩ := hst.form
 obtain ⟨ao3, cap3, rfl, hc3⟩ := hx.form
 obtain ⟨ao_v, L_v, cap_v, rfl, hv1, hv2⟩ := Mem.Own.form h9
 obtain ⟨ao_p, L_p, cap_p, rfl, hp1, hp2⟩ := Mem.Own.form h5
 simp only [ss_len, bs_len] at *
 obtain rfl : L_v = l.length := by omega
 obtain rfl : L_p = b.length := by omega
 have o_v0 : Hid (Own w lo w.heap.size 9 (.slice ao_v l.length cap_v) (ss l)) := h9
 have o_p0 : Hid (Own w lo w.heap.size 5 (.slice ao_p b.length cap_p) (bs b)) := h5
 clear hst hx hR h9 h5 hv1 hv2 hp1 hp2 hok hti hk hG hF
 have B0 : Hid (Below w.heap.size w w) := Below.refl _ _
 obtain ⟨W1, HW1, b1, y1, hS1, r_a1, r_q1, r_res1⟩ := Ke.l3 w #[.int .i64 id, .slice ao_v l.length cap_v, .int .i64 h.n, .string h.r, .slice ao_p b.length cap_p, .int .i64 s, .int .i64 g.n, .string g.r] 32 #[.int .i64 k, .int .i64 f, .int .i64 tt, .int .i64 hq.n, .string hq.r, .int .i64 n, .slice ao3 x.length cap3] 35 #[.int .i64 0, .slice none 0 0, .int .i64 0, .string ⟨#[]⟩, .slice none 0 0, .int .i64 0, .int .i64 0, .string ⟨#[]⟩] 32
 have z1 := b1.size
 have B1 := Ke.b B0 b1
 have o_v1 := Ke.o o_v0 b1
 have o_p1 := Ke.o o_p0 b1
 have c_a1 := Ke.c r_a1
 have c_q1 := Ke.c r_q1
 have c_res1 := Ke.c r_res1
 clear o_v0 o_p0
 have hoth : ∀ G, another ⟨id, ⟨l, h, b, s⟩, G⟩ f = true := by
  intro G
  have h1 := msg_parts HOK.out
  have h2 := HTI.out
  unfold another
  simp only [Bool.and_eq_true, decide_eq_true_eq, Bool.not_eq_true', decide_eq_false_iff_not]
  exact ⟨h1.1, fun e => h1.2.2.1 (by simp only; rw [h2]; exact e)⟩
 have HO : Hid (∀ G, another ⟨id, ⟨l, h, b, s⟩, G⟩ f = true) := hoth
 clear hoth
 have q1 : ∀ W v1, Sh W v1 t → _ := fun W v1 h1 => signed_impl W v1 t hq h1 (by omega)
 obtain ⟨A, hA⟩ : ∃ A, signed t hq = A := ⟨_, rfl⟩
 simp only [hA] at q1
 have HA : Hid (signed t hq = A) := hA
 clear hA
 have q2 : ∀ W v1 v2, Sl W v1 (ss l) → Sl W v2 (bs b) → _ := fun W v1 v2 h1 h2 => withbest_impl W v1 v2 ⟨id, ⟨l, h, b, s⟩, g⟩ hq (by omega) h1 h2
 simp only at q2
 obtain ⟨G, hG⟩ : ∃ G, (better ⟨id, ⟨l, h, b, s⟩, g⟩ hq).b = G := ⟨_, rfl⟩
 simp only [hG] at q2
 have HGB : Hid (better ⟨id, ⟨l, h, b, s⟩, g⟩ hq = ⟨id, ⟨l, h, b, s⟩, G⟩) := by
  show _ = _
  rw [← hG]
  unfold better
  split <;> rfl
 have hGr : G.r.size ≤ 1000000000000 := by
  rw [← hG]
  unfold better
  split
  ·exact Nat.le_trans hdr (by omega)
  ·exact hgr
 clear hG
 go_enter Tryz.func87, Tryz.ntmps87
 go_wp2_with fail
 rw [HW1.out]
 refine (q1 W1 _ (HT.out.later B1.out)).mono ?_
 rintro e W2 ⟨rfl, b2⟩
 have z2 := b2.size
 have B2 := Ke.b B1 b2
 have r_a2 := Ke.r r_a1 b2
 have r_q2 := Ke.r r_q1 b2
 have r_res2 := Ke.r r_res1 b2
 have o_v2 := Ke.o o_v1 b2
 have o_p2 := Ke.o o_p1 b2
 have c_a2 := Ke.c r_a2
 have c_q2 := Ke.c r_q2
 have c_res2 := Ke.c r_res2
 clear r_a1 c_a1 r_q1 c_q1 r_res1 c_res1 o_v1 o_p1
 cases A
 ·have HN : Hid (R = (⟨id, ⟨l, h, b, s⟩, g⟩, [])) := by show _ = _; rw [← HR.out]; unfold hear1; simp only; rw [if_pos HK.out, HA.out]; rfl
  go_wp2_with (first | (refine wpList_load_row rfl 32 _ rfl (w.heap.size) rfl 32 (mq id (.slice ao_v l.length cap_v) h (.slice ao_p b.length cap_p) s g) (0, 0) _ r_a2.out Tryz.underlying32 rfl (sizeQ _ _ _ _ _ _) ?_) | (refine wpList_store_row rfl 32 _ _ rfl (w.heap.size + 1 + 1) (mq id (.slice ao_v l.length cap_v) h (.slice ao_p b.length cap_p) s g) rfl rfl 32 _ r_res2.out (sizeQ _ _ _ _ _ _) rfl (oneQ _ _ _ _ rfl rfl) ?_))
  refine bodyPost_ret (res_row_tmp rfl _ _ (w.heap.size + 1 + 1) 32 (mq id (.slice ao_v l.length cap_v) h (.slice ao_p b.length cap_p) s g) (0, 0) _ rfl (setRow_heap _ _ _ _ _ (0, 0) r_res2.out) Tryz.underlying32 rfl (sizeQ _ _ _ _ _ _)) rfl ⟨.slice ao_v l.length cap_v, .slice ao_p b.length cap_p, _, w.heap.size, by rw [HN.out]; rfl, ?_, ?_, ?_, ?_, ?_, below_setRow B2.out (by omega) _⟩
  ·omega
  ·rw [size_setRow]; omega
  ·rw [HN.out]
   exact (Own.setRow o_v2.out _ (by omega)).mono (by omega) (by omega)
  ·rw [HN.out]
   exact (Own.setRow o_p2.out _ (by omega)).mono (by omega) (by omega)
  ·rw [HN.out]
   exact Om.nil _ _ _ _ _
 ·have q3 : ∀ W v1 v2, Sl W v1 (ss l) → Sl W v2 (bs b) → _ := fun W v1 v2 h1 h2 => asking_impl W v1 v2 ⟨id, ⟨l, h, b, s⟩, G⟩ f hGr h1 h2
  obtain ⟨N, hN⟩ : ∃ N, ask1 ⟨id, ⟨l, h, b, s⟩, G⟩ f = N := ⟨_, rfl⟩
  simp only [hN] at q3
  have HN : Hid (R = (⟨id, ⟨l, h, b, s⟩, G⟩, N)) := by show _ = _; rw [← HR.out]; unfold hear1 ask; simp only; rw [if_pos HK.out, HA.out, if_pos rfl, HGB.out, HO.out G, if_pos rfl, hN]
  clear hN
  go_wp2_with fail
  refine (q2 W2 _ _ (HS.out.later B2.out) (HSB.out.later B2.out)).mono ?_
  rintro e W3 ⟨rfl, b3⟩
  have z3 := b3.size
  have B3 := Ke.b B2 b3
  have r_a3 := Ke.r r_a2 b3
  have r_q3 := Ke.r r_q2 b3
  have r_res3 := Ke.r r_res2 b3
  have o_v3 := Ke.o o_v2 b3
  have o_p3 := Ke.o o_p2 b3
  have c_a3 := Ke.c r_a3
  have c_q3 := Ke.c r_q3
  have c_res3 := Ke.c r_res3
  clear r_a2 c_a2 r_q2 c_q2 r_res2 c_res2 o_v2 o_p2
  go_wp2_with (refine wpl_partG rfl 32 _ _ rfl (w.heap.size) 0 (mq id (.slice ao_v l.length cap_v) h (.slice ao_p b.length cap_p) s G) rfl rfl [.int .i64 id, .slice ao_v l.length cap_v, .int .i64 h.n, .string h.r, .slice ao_p b.length cap_p, .int .i64 s, .int .i64 g.n, .string g.r] 32 r_a3.out (Nat.le_of_ble_eq_true rfl) (sizeQ _ _ _ _ _ _) (oneQ _ _ _ _ rfl rfl) [.int .i64 id, .slice ao_v l.length cap_v, .int .i64 h.n, .string h.r, .slice ao_p b.length cap_p, .int .i64 s, .int .i64 G.n, .string G.r] rfl ?_)
  intro W4 r_a4 g4
  have r_a4 := Ke.h r_a4
  have z4 := g4.size
  have B4 := Ke.i B3 g4
  have r_q4 := Ke.s r_q3 g4
  have r_res4 := Ke.s r_res3 g4
  have o_v4 := Ke.t o_v3 r_a3 g4
  have o_p4 := Ke.t o_p3 r_a3 g4
  have c_a4 := Ke.c r_a4
  have c_q4 := Ke.c r_q4
  have c_res4 := Ke.c r_res4
  clear r_q3 c_q3 r_res3 c_res3 o_v3 o_p3
  clear r_a3 c_a3
  clear g4
  go_wp2_with fail
  refine wp_region_held_drew (S := fun w' => (∀ j, w'.cell? ⟨w.heap.size, j, none⟩ = #[.int .i64 id, .slice ao_v l.length cap_v, .int .i64 h.n, .string h.r, .slice ao_p b.length cap_p, .int .i64 s, .int .i64 G.n, .string G.r][j]?) ∧ (∀ j, w'.cell? ⟨w.heap.size + 1, j, none⟩ = #[.int .i64 k, .int .i64 f, .int .i64 tt, .int .i64 hq.n, .string hq.r, .int .i64 n, .slice ao3 x.length cap3][j]?)) (by kernel_rfl) ⟨c_a4, c_q4⟩ (fun hHeld => ?_)
  refine Ke.q 0 ?_; try simp only [Act.put, pq]
  refine Ke.q 1 ?_; try simp only [Act.put, pq]
  refine Ke.q 2 ?_; try simp only [Act.put, pq]
  refine Ke.q 3 ?_; try simp only [Act.put, pq]
  refine Ke.z 4 rfl (fun K hK => ?_)
  go_simp
  refine (q3 W4.drew _ _ (Sl.later (w := W4) (HS.out.later B4.out) (Below.drew (Below.refl _ _))) (Sl.later (w := W4) (HSB.out.later B4.out) (Below.drew (Below.refl _ _)))).mono ?_
  rintro e W5 ⟨v_o, rfl, om5, b5⟩
  have b5 : Below W4.heap.size W4 W5 := (Below.drew (Below.refl _ _)).trans b5
  obtain ⟨ao_o, L_o, cap_o, rfl, hL8, hL9⟩ := om5.form
  clear hL8 hL9
  have OM : Hid (Om W5 W4.heap.size W5.heap.size (.slice ao_o L_o cap_o) N) := om5
  clear om5
  refine hK.out _ _ ⟨(Ke.k (W := W4) hHeld.1 b5), (Ke.k (W := W4) hHeld.2 b5)⟩ (fun hHeld => ?_)
  clear hK K
  try simp only [Act.put, pq]
  have z5 := b5.size
  have B5 := Ke.b B4 b5
  have r_a5 := Ke.r r_a4 b5
  have r_q5 := Ke.r r_q4 b5
  have r_res5 := Ke.r r_res4 b5
  have o_v5 := Ke.o o_v4 b5
  have o_p5 := Ke.o o_p4 b5
  have c_a5 := Ke.c r_a5
  have c_q5 := Ke.c r_q5
  have c_res5 := Ke.c r_res5
  clear r_a4 c_a4 r_q4 c_q4 r_res4 c_res4 o_v4 o_p4
  refine Ke.z 5 rfl (fun K hK => ?_)
  rw [if_pos (by rfl)]
  refine wp_store_row 32 _ _ rfl (w.heap.size + 1 + 1) (mq id (.slice ao_v l.length cap_v) h (.slice ao_p b.length cap_p) s G) rfl rfl 32 _ r_res5.out (sizeQ _ _ _ _ _ _) rfl (oneQ _ _ _ _ rfl rfl) ?_
  refine hK.out _ _ ⟨(Ke.w (by show w.heap.size ≠ w.heap.size + 1 + 1; omega) hHeld.1), (Ke.w (by show w.heap.size + 1 ≠ w.heap.size + 1 + 1; omega) hHeld.2)⟩ (fun hHeld => ?_)
  clear hK K
  try simp only [Act.put, pq]
  refine Ke.q 6 ?_; try simp only [Act.put, pq]
  refine wpAnyH_done (by kernel_rfl) ?_ _
  clear hHeld
  go_wp2
  refine bodyPost_ret (res_row_tmp rfl _ _ (w.heap.size + 1 + 1) 32 (mq id (.slice ao_v l.length cap_v) h (.slice ao_p b.length cap_p) s G) (0, 0) _ rfl (setRow_heap _ _ _ _ _ (0, 0) r_res5.out) Tryz.underlying32 rfl (sizeQ _ _ _ _ _ _)) rfl ⟨.slice ao_v l.length cap_v, .slice ao_p b.length cap_p, _, W4.heap.size, by rw [HN.out]; rfl, ?_, ?_, ?_, ?_, ?_, below_setRow B5.out (by omega) _⟩
  ·omega
  ·rw [size_setRow]; omega
  ·rw [HN.out]
   exact (Own.setRow o_v5.out _ (by omega)).mono (by omega) (by omega)
  ·rw [HN.out]
   exact (Own.setRow o_p5.out _ (by omega)).mono (by omega) (by omega)
  ·rw [HN.out]
   exact (OM.out.setRow _ (by omega)).mono (Nat.le_refl _) (by rw [size_setRow]; omega) (Nat.le_refl _)
end Go.Proofs.YtchonoonclllbaaGreatDoor.Mi
