/- Texts in one: MjA, MiV. -/
import Derived.Test.YtchonoonclllbaaGreatDoorPv6
import Derived.Test.YtchonoonclllbaaGreatDoorPv11
import Derived.Test.YtchonoonclllbaaGreatDoorPv12
import Derived.Test.YtchonoonclllbaaGreatDoorPv23
import Derived.Test.YtchonoonclllbaaGreatDoorPv14
namespace Go.Proofs.YtchonoonclllbaaGreatDoor.Mi
open Go.RowKit Go.Proofs.YtchonoonclllbaaGreatDoor.Mem Go.Proofs.YtchonoonclllbaaGreatDoor.Laws Go.Proofs.YtchonoonclllbaaGreatDoor.Bytes Go.Proofs.YtchonoonclllbaaGreatDoor.Sha Go.Proofs.YtchonoonclllbaaGreatDoor.Tr Go.Proofs.YtchonoonclllbaaGreatDoor.He Go.Proofs.YtchonoonclllbaaGreatDoor.Lg Go.Proofs.YtchonoonclllbaaGreatDoor.Sr Go.Proofs.YtchonoonclllbaaGreatDoor.Mg
set_option linter.unusedVariables false
set_option linter.unusedSimpArgs false
theorem slNil14 (w : World) : Sl w (.slice none 0 0) (ss []) := ⟨none, 0, rfl, Nat.le_refl _, fun _ => rfl, fun h => by simp [ss] at h⟩
set_option maxRecDepth 1000000 in
set_option maxHeartbeats 16000000 in
theorem known_impl (w : World) (vt : Value) (t : List Hd) (h : Hd) (hG : Glob w) (hst : Sh w vt t) (htl : t.length ≤ 1000000000) :
  Calls Tryz.prog 54 #[vt, .agg #[.int .i64 h.n, .string h.r]] w fun e w' => e = .returned (.bool (known t h)) ∧ Below w.heap.size w w' := by
 obtain ⟨R, hR⟩ : ∃ R, known t h = R := ⟨_, rfl⟩
 have HR : Hid (known t h = R) := hR
 rw [hR]
 have HT : Hid (Sh w vt t) := hst
 have HG : Hid (Glob w) := hG
 obtain ⟨ao0, cap0, rfl, hc0⟩ := hst.form
 clear hst hR hG
 have B0 : Hid (Below w.heap.size w w) := Below.refl _ _
 obtain ⟨W1, HW1, b1, y1, hS1, r_h1⟩ := Ke.l1 w #[.int .i64 h.n, .string h.r] 26
 have z1 := b1.size
 have B1 := Ke.b B0 b1
 have c_h1 := Ke.c r_h1
 obtain ⟨M, hM⟩ : ∃ M, headOf [] = M := ⟨_, rfl⟩
 obtain ⟨E, hE⟩ : ∃ E, eqH h M = E := ⟨_, rfl⟩
 have e1 : ∀ W, _ := fun W => eqlH W h M
 have e2 : ∀ W op y z xs ys, _ := fun W op y z xs ys => grdH W op y z xs ys
 simp only [hE] at e1
 have q1 : ∀ W, Glob W → _ := fun W hW => headOf_impl W (.slice none 0 0) [] hW (slNil14 W) (by simp) (fun s hs => by cases hs)
 simp only [hM] at q1
 have q2 : ∀ W v1, Sh W v1 t → _ := fun W v1 h1 => signed_impl W v1 t h h1 (by omega)
 obtain ⟨A, hA⟩ : ∃ A, signed t h = A := ⟨_, rfl⟩
 simp only [hA] at q2
 have HD : Hid (R = (E || A)) := by show _ = _; rw [← HR.out]; unfold known; rw [hM, hE, hA]
 clear HR hM hE hA
 go_enter Tryz.func54, Tryz.ntmps54
 go_wp2_with fail
 rw [HW1.out]
 refine wp_region_held_drew (S := fun w' => w'.cell? ⟨w.heap.size, 0, none⟩ = some (.int .i64 h.n) ∧ w'.cell? ⟨w.heap.size, 1, none⟩ = some (.string h.r)) (by kernel_rfl) ⟨(c_h1 0), (c_h1 1)⟩ (fun hHeld => ?_)
 refine Ke.y 0 rfl (fun _ _ _ h => h) ?_
 try simp only [Act.put, pu1, pu2, pu3, pu4, pu5, pu6]
 refine Ke.z 1 rfl (fun K hK => ?_)
 go_simp
 refine (q1 W1.drew ((HG.out.later B1.out).later (Below.drew (Below.refl _ _)))).mono ?_
 rintro e W2 ⟨rfl, b2⟩
 have b2 : Below W1.heap.size W1 W2 := (Below.drew (Below.refl _ _)).trans b2
 refine hK.out _ _ ⟨(keepR (W := W1) hHeld.1 b2), (keepR (W := W1) hHeld.2 b2)⟩ (fun hHeld => ?_)
 clear hK K
 try simp only [Act.put, pu1, pu2, pu3, pu4, pu5, pu6]
 have z2 := b2.size
 have B2 := Ke.b B1 b2
 have r_h2 := Ke.r r_h1 b2
 have c_h2 := Ke.c r_h2
 clear r_h1 c_h1
 refine Ke.y 2 rfl (fun _ _ _ h => h) ?_
 try simp only [Act.put, pu1, pu2, pu3, pu4, pu5, pu6]
 refine Ke.y 3 rfl (fun _ _ _ h => h) ?_
 try simp only [Act.put, pu1, pu2, pu3, pu4, pu5, pu6]
 cases E
 ·
  refine Ke.y 4 rfl (fun _ _ _ h => h) ?_
  try simp only [Act.put, pu1, pu2, pu3, pu4, pu5, pu6]
  refine Ke.y 5 rfl (fun _ _ _ h => h) ?_
  try simp only [Act.put, pu1, pu2, pu3, pu4, pu5, pu6]
  refine Ke.z 6 rfl (fun K hK => ?_)
  go_simp
  refine (q2 W2 _ (HT.out.later B2.out)).mono ?_
  rintro e W3 ⟨rfl, b3⟩
  refine hK.out _ _ ⟨(keepR (W := W2) hHeld.1 b3), (keepR (W := W2) hHeld.2 b3)⟩ (fun hHeld => ?_)
  clear hK K
  try simp only [Act.put, pu1, pu2, pu3, pu4, pu5, pu6]
  have z3 := b3.size
  have B3 := Ke.b B2 b3
  have r_h3 := Ke.r r_h2 b3
  have c_h3 := Ke.c r_h3
  clear r_h2 c_h2
  refine Ke.y 7 rfl (fun _ _ _ h => h) ?_
  try simp only [Act.put, pu1, pu2, pu3, pu4, pu5, pu6]
  refine Ke.y 8 rfl (fun _ _ _ h => h) ?_
  try simp only [Act.put, pu1, pu2, pu3, pu4, pu5, pu6]
  refine wpAnyH_done (by kernel_rfl) ?_ _
  clear hHeld
  go_wp2
  go_ret
  exact ⟨by rw [HD.out]; rfl, B3.out⟩
 ·
  refine Ke.x 4 rfl (fun _ _ _ h => h) ?_
  try simp only [Act.put, pu1, pu2, pu3, pu4, pu5, pu6]
  refine Ke.x 5 rfl (fun _ _ _ h => h) ?_
  try simp only [Act.put, pu1, pu2, pu3, pu4, pu5, pu6]
  refine Ke.x 6 rfl (fun _ _ _ h => h) ?_
  try simp only [Act.put, pu1, pu2, pu3, pu4, pu5, pu6]
  refine Ke.y 7 rfl (fun _ _ _ h => h) ?_
  try simp only [Act.put, pu1, pu2, pu3, pu4, pu5, pu6]
  refine Ke.y 8 rfl (fun _ _ _ h => h) ?_
  try simp only [Act.put, pu1, pu2, pu3, pu4, pu5, pu6]
  refine wpAnyH_done (by kernel_rfl) ?_ _
  clear hHeld
  go_wp2
  go_ret
  exact ⟨by rw [HD.out]; rfl, B2.out⟩
set_option maxRecDepth 1000000 in
set_option maxHeartbeats 16000000 in
theorem mirrorok_impl (w : World) (v vb vt : Value) (m : Mr) (t : List Hd) (hG : Glob w) (hN : NoC w) (hgr : m.b.r.size ≤ 1000000000000) (hs : Sl w v (ss m.st.l)) (hb : Sl w vb (bs m.st.b)) (hby : Byt m.st.b) (hst : Sh w vt t) (hl : m.st.l.length ≤ 1000000000) (hbl : m.st.b.length ≤ 1000000000) (htl : t.length ≤ 1000000000) (hz : ∀ s ∈ m.st.l, s.size ≤ 10000000000) :
  Calls Tryz.prog 14 #[.agg #[.int .i64 m.id, v, .int .i64 m.st.h.n, .string m.st.h.r, vb, .int .i64 m.st.s, .int .i64 m.b.n, .string m.b.r], vt] w fun e w' => e = .returned (.bool (mirrorOk m t)) ∧ Below w.heap.size w w' := by
 obtain ⟨R, hR⟩ : ∃ R, mirrorOk m t = R := ⟨_, rfl⟩
 have HR : Hid (mirrorOk m t = R) := hR
 rw [hR]
 obtain ⟨id, ⟨l, h, b, s⟩, g⟩ := m
 simp only at *
 have HS : Hid (Sl w v (ss l)) := hs
 have HSB : Hid (Sl w vb (bs b)) := hb
 have HBY : Hid (Byt b) := hby
 have HT : Hid (Sh w vt t) := hst
 have HG : Hid (Glob w) := hG
 have HN : Hid (NoC w) := hN
 obtain ⟨ao0, cap0, rfl, hc0⟩ := hs.form
 obtain ⟨ao1, cap1, rfl, hc1⟩ := hb.form
 obtain ⟨ao2, cap2, rfl, hc2⟩ := hst.form
 simp only [ss_len, bs_len] at *
 clear hs hb hby hst hR hG hN
 have B0 : Hid (Below w.heap.size w w) := Below.refl _ _
 obtain ⟨W1, HW1, b1, y1, hS1, r_a1⟩ := Ke.l1 w #[.int .i64 id, .slice ao0 l.length cap0, .int .i64 h.n, .string h.r, .slice ao1 b.length cap1, .int .i64 s, .int .i64 g.n, .string g.r] 32
 have z1 := b1.size
 have B1 := Ke.b B0 b1
 have c_a1 := Ke.c r_a1
 have q1 : ∀ W v1 v2, Glob W → NoC W → Sl W v1 (ss l) → Sl W v2 (bs b) → _ := fun W v1 v2 hG hN h1 h2 => storeok_impl W v1 v2 ⟨l, h, b, s⟩ hG hN h1 h2 HBY.out hl hbl hz
 obtain ⟨A, hA⟩ : ∃ A, storeOk ⟨l, h, b, s⟩ = A := ⟨_, rfl⟩
 simp only [hA] at q1
 have q2 : ∀ W, _ := fun W => ok_impl W g hgr
 obtain ⟨B, hB⟩ : ∃ B, okH g = B := ⟨_, rfl⟩
 simp only [hB] at q2
 have q3 : ∀ W v1, Glob W → Sh W v1 t → _ := fun W v1 hG h1 => known_impl W v1 t g hG h1 htl
 obtain ⟨C, hC⟩ : ∃ C, known t g = C := ⟨_, rfl⟩
 simp only [hC] at q3
 have q4 : ∀ W v1, Glob W → Sh W v1 t → _ := fun W v1 hG h1 => known_impl W v1 t h hG h1 htl
 obtain ⟨D, hD⟩ : ∃ D, known t h = D := ⟨_, rfl⟩
 simp only [hD] at q4
 obtain ⟨I, hI⟩ : ∃ I, decide (0 ≤ id ∧ id ≤ 20) = I := ⟨_, rfl⟩
 have q0 : ∀ W, _ := fun W => Wd.mirror_impl W id
 simp only [hI] at q0
 have HD : Hid (R = (I && A && B && C && D)) := by show _ = _; rw [← HR.out]; unfold mirrorOk; simp only; rw [hI, hA, hB, hC, hD]
 clear HR hI hA hB hC hD hz
 go_enter Tryz.func14, Tryz.ntmps14
 go_wp2_with fail
 rw [HW1.out]
 refine (q0 W1).mono ?_
 rintro e W_ ⟨rfl, hW_⟩
 subst hW_
 clear q0
 cases I
 ·
  go_wp2
  go_ret
  exact ⟨by rw [HD.out]; simp, B1.out⟩
 ·
  go_wp2_with fail
  refine (q2 W1).mono ?_
  rintro e W2 ⟨rfl, b2⟩
  have z2 := b2.size
  have B2 := Ke.b B1 b2
  have r_a2 := Ke.r r_a1 b2
  have c_a2 := Ke.c r_a2
  clear r_a1 c_a1
  cases B
  ·
   go_wp2
   go_ret
   exact ⟨by rw [HD.out]; simp, B2.out⟩
  ·
   go_wp2_with fail
   refine (q3 W2 _ (HG.out.later B2.out) (HT.out.later B2.out)).mono ?_
   rintro e W3 ⟨rfl, b3⟩
   have z3 := b3.size
   have B3 := Ke.b B2 b3
   have r_a3 := Ke.r r_a2 b3
   have c_a3 := Ke.c r_a3
   clear r_a2 c_a2
   cases C
   ·
    go_wp2
    go_ret
    exact ⟨by rw [HD.out]; simp, B3.out⟩
   ·
    go_wp2_with fail
    refine (q4 W3 _ (HG.out.later B3.out) (HT.out.later B3.out)).mono ?_
    rintro e W4 ⟨rfl, b4⟩
    have z4 := b4.size
    have B4 := Ke.b B3 b4
    have r_a4 := Ke.r r_a3 b4
    have c_a4 := Ke.c r_a4
    clear r_a3 c_a3
    cases D
    ·
     go_wp2
     go_ret
     exact ⟨by rw [HD.out]; simp, B4.out⟩
    ·
     go_wp2_with fail
     refine (q1 W4 _ _ (HG.out.later B4.out) (NoC.later HN.out B4.out) (HS.out.later B4.out) (HSB.out.later B4.out)).mono ?_
     rintro e W5 ⟨rfl, b5⟩
     have z5 := b5.size
     have B5 := Ke.b B4 b5
     have r_a5 := Ke.r r_a4 b5
     have c_a5 := Ke.c r_a5
     clear r_a4 c_a4
     cases A
     ·
      go_wp2
      go_ret
      exact ⟨by rw [HD.out]; simp, B5.out⟩
     ·
      go_wp2
      go_ret
      exact ⟨by rw [HD.out]; simp, B5.out⟩
set_option maxRecDepth 1000000 in
set_option maxHeartbeats 16000000 in
theorem exact_mirrorok (w : World) (v vb vt : Value) (id : Int) (l : List ByteArray) (h : Hd) (b : List Int) (s : Int) (g : Hd) (t : List Hd) (hs : Sl w v (ss l)) (hb : Sl w vb (bs b)) (hby : Byt b) (hz : ∀ s ∈ l, s.size ≤ maxLen) (hm : l.length ≤ maxLen) (hmb : b.length ≤ maxLen) (hh : h.r.size ≤ maxLen) (hgm : g.r.size ≤ maxLen) (hst : Sh w vt t) (y0 : ∀ n ∈ t, n.r.size ≤ maxLen) (m0 : t.length ≤ maxLen) (hG : Glob w) (hN : NoC w) :
  Calls Tryz.prog 7 #[.agg #[.int .i64 id, v, .int .i64 h.n, .string h.r, vb, .int .i64 s, .int .i64 g.n, .string g.r], vt] w fun e w' => e = .returned (.bool true) ∧ Below w.heap.size w w' := by
 have HS : Hid (Sl w v (ss l)) := hs
 have HSB : Hid (Sl w vb (bs b)) := hb
 have HBY : Hid (Byt b) := hby
 have HT : Hid (Sh w vt t) := hst
 have HG : Hid (Glob w) := hG
 have HNC : Hid (NoC w) := hN
 unfold maxLen at *
 obtain ⟨ao0, cap0, rfl, hc0⟩ := hs.form
 obtain ⟨ao1, cap1, rfl, hc1⟩ := hb.form
 obtain ⟨ao2, cap2, rfl, hc2⟩ := hst.form
 simp only [ss_len, bs_len] at *
 clear hs hb hby hst hG hN
 have B0 : Hid (Below w.heap.size w w) := Below.refl _ _
 obtain ⟨W1, HW1, b1, y1, hS1, r_a1⟩ := Ke.l1 w #[.int .i64 id, .slice ao0 l.length cap0, .int .i64 h.n, .string h.r, .slice ao1 b.length cap1, .int .i64 s, .int .i64 g.n, .string g.r] 63
 have z1 := b1.size
 have B1 := Ke.b B0 b1
 have c_a1 := Ke.c r_a1
 go_enter Tryz.func7, Tryz.ntmps7
 go_wp2_with fail
 rw [HW1.out]
 refine (sz_mirror W1 _ _ id l h b s g (HS.out.later B1.out) (HSB.out.later B1.out) (fun s h => by have := hz s h; omega) (by omega) (by omega) (by omega) (by omega)).mono ?_
 rintro e W2 ⟨⟨r0, rfl, hr0⟩, b2⟩
 have z2 := b2.size
 have B2 := Ke.b B1 b2
 have r_a2 := Ke.r r_a1 b2
 have c_a2 := Ke.c r_a2
 clear r_a1 c_a1
 by_cases hr : r0 < 0
 ·
  go_wp2
  go_ret
  exact ⟨rfl, B2.out⟩
 have hr1 : l.length + Puts.tot l ≤ 1048576 ∧ h.r.size ≤ 1048576 ∧ b.length ≤ 1048576 ∧ g.r.size ≤ 1048576 ∧ 0 ≤ r0 ∧ r0 ≤ 1048576 := by rcases hr0 with h0 | h0; exact absurd h0 hr; exact h0
 obtain ⟨hr1, hzh, hbl, hzg, hr2, hr3⟩ := hr1
 have hl : l.length ≤ 1048576 := by omega
 have HZ : Hid (∀ s ∈ l, s.size ≤ 10000000000) := fun s h => Nat.le_trans (tot_mem14 l s h) (by omega)
 clear hz hr0 hm hmb hh hgm
 obtain ⟨n0, rfl⟩ : ∃ n0 : Nat, r0 = (n0 : Int) := ⟨r0.toNat, by omega⟩
 go_wp2_with fail
 refine (sz_heads W2 _ t n0 (HT.out.later B2.out) (fun n hn => y0 n hn) m0 (by omega)).mono ?_
 rintro e W3 ⟨⟨q0, rfl, hq1, hq0⟩, b3⟩
 have z3 := b3.size
 have B3 := Ke.b B2 b3
 have r_a3 := Ke.r r_a2 b3
 have c_a3 := Ke.c r_a3
 clear r_a2 c_a2
 by_cases hqn : q0 < 0
 ·
  go_wp2
  go_ret
  exact ⟨rfl, B3.out⟩
 have hfit : 0 ≤ q0 ∧ t.length ≤ 1048576 := by rcases hq0 with h | ⟨h1, h2, h3⟩; exact absurd h hqn; exact ⟨h1, by omega⟩
 obtain ⟨hq2, htl⟩ := hfit
 clear hq0 y0 m0
 have q1 : ∀ W v1 v2 v3, Sl W v1 (ss l) → Sl W v2 (bs b) → Sh W v3 t → _ := fun W v1 v2 v3 h1 h2 h3 => mirrorok_spec W v1 v2 v3 ⟨id, ⟨l, h, b, s⟩, g⟩ t h1 h2 HBY.out h3 (by simp only; omega) (by simp only; omega) (by omega) HZ.out
 have q2 : ∀ W v1 v2 v3, Below w.heap.size w W → Sl W v1 (ss l) → Sl W v2 (bs b) → Sh W v3 t → _ := fun W v1 v2 v3 hB h1 h2 h3 => mirrorok_impl W v1 v2 v3 ⟨id, ⟨l, h, b, s⟩, g⟩ t (HG.out.later hB) (NoC.later HNC.out hB) (by simp only; omega) h1 h2 HBY.out h3 (by simp only; omega) (by simp only; omega) (by omega) HZ.out
 obtain ⟨Z, hM⟩ : ∃ Z, mirrorOk ⟨id, ⟨l, h, b, s⟩, g⟩ t = Z := ⟨_, rfl⟩
 simp only [hM] at q1 q2
 clear hM
 have nM : (Z != Z) = false := by simp
 have nE : (Z == Z) = true := by simp
 go_wp2_with fail
 refine (to_mirror W3 _ _ id l h b s g (HS.out.later B3.out) (HSB.out.later B3.out) (by omega) (by omega)).mono ?_
 rintro e W4 ⟨v_t, v_tp, rfl, o_t4, o_tp4, b4⟩
 obtain ⟨lo_t, hi_t, lo_tp, hi_tp, d1_t, d2_t, d3_t, d4_t, d5_t, d6_t, d7_t, oo_t, oo_tp⟩ := Sr.pairN o_t4 o_tp4 b4.size
 clear o_t4 o_tp4
 obtain ⟨ao_t, L_t, cap_t, rfl, _, _⟩ := oo_t.form
 obtain ⟨ao_tp, L_tp, cap_tp, rfl, _, _⟩ := oo_tp.form
 have o_t4 : Hid (Own W4 lo_t hi_t 9 (.slice ao_t L_t cap_t) (ss l)) := oo_t
 have o_tp4 : Hid (Own W4 lo_tp hi_tp 5 (.slice ao_tp L_tp cap_tp) (bs b)) := oo_tp
 clear oo_t oo_tp
 have z4 := b4.size
 have B4 := Ke.b B3 b4
 have r_a4 := Ke.r r_a3 b4
 have c_a4 := Ke.c r_a4
 clear r_a3 c_a3
 go_wp2_with fail
 refine (to_heads W4 _ t (HT.out.later B4.out) (by omega)).mono ?_
 rintro e W5 ⟨v_t1, rfl, o_t15, b5⟩
 have z5 := b5.size
 have B5 := Ke.b B4 b5
 have r_a5 := Ke.r r_a4 b5
 have o_t5 := Ke.o o_t4 b5
 have o_tp5 := Ke.o o_tp4 b5
 have c_a5 := Ke.c r_a5
 clear r_a4 c_a4 o_t4 o_tp4
 have f_t15 : Hid (Oq W5 W4.heap.size W5.heap.size v_t1 t) := ⟨o_t15, Nat.le_refl _⟩
 clear o_t15
 go_wp2_with fail
 refine (q1 W5 _ _ _ o_t5.out.sl o_tp5.out.sl f_t15.out.1.sh).mono ?_
 rintro e W6 ⟨rfl, b6⟩
 have z6 := b6.size
 have B6 := Ke.b B5 b6
 have r_a6 := Ke.r r_a5 b6
 have o_t6 := Ke.o o_t5 b6
 have o_tp6 := Ke.o o_tp5 b6
 have c_a6 := Ke.c r_a6
 clear r_a5 c_a5 o_t5 o_tp5
 have f_t16 : Hid (Oq W6 W4.heap.size W5.heap.size v_t1 t) := Oq.later f_t15.out b6
 clear f_t15
 clear o_t6
 clear o_tp6
 clear f_t16
 go_wp2_with fail
 refine (to_mirror W6 _ _ id l h b s g (HS.out.later B6.out) (HSB.out.later B6.out) (by omega) (by omega)).mono ?_
 rintro e W7 ⟨v_x, v_xp, rfl, o_x7, o_xp7, b7⟩
 obtain ⟨lo_x, hi_x, lo_xp, hi_xp, d1_x, d2_x, d3_x, d4_x, d5_x, d6_x, d7_x, oo_x, oo_xp⟩ := Sr.pairN o_x7 o_xp7 b7.size
 clear o_x7 o_xp7
 obtain ⟨ao_x, L_x, cap_x, rfl, _, _⟩ := oo_x.form
 obtain ⟨ao_xp, L_xp, cap_xp, rfl, _, _⟩ := oo_xp.form
 have o_x7 : Hid (Own W7 lo_x hi_x 9 (.slice ao_x L_x cap_x) (ss l)) := oo_x
 have o_xp7 : Hid (Own W7 lo_xp hi_xp 5 (.slice ao_xp L_xp cap_xp) (bs b)) := oo_xp
 clear oo_x oo_xp
 have z7 := b7.size
 have B7 := Ke.b B6 b7
 have r_a7 := Ke.r r_a6 b7
 have c_a7 := Ke.c r_a7
 clear r_a6 c_a6
 have a_a7 := Ke.a r_a7
 obtain ⟨W8, HW8, b8, y8, hS8, r_x08⟩ := Ke.l1 W7 #[.int .i64 id, .slice ao_x L_x cap_x, .int .i64 h.n, .string h.r, .slice ao_xp L_xp cap_xp, .int .i64 s, .int .i64 g.n, .string g.r] 32
 have z8 := b8.size
 have B8 := Ke.b B7 b8
 have r_a8 := Ke.r r_a7 b8
 have o_x8 := Ke.o o_x7 b8
 have o_xp8 := Ke.o o_xp7 b8
 have c_a8 := Ke.c r_a8
 have c_x08 := Ke.c r_x08
 clear r_a7 c_a7 o_x7 o_xp7
 go_wp2_with fail
 rw [HW8.out]
 clear a_a7
 refine (to_heads W8 _ t (HT.out.later B8.out) (by omega)).mono ?_
 rintro e W9 ⟨v_x1, rfl, o_x19, b9⟩
 have z9 := b9.size
 have B9 := Ke.b B8 b9
 have r_a9 := Ke.r r_a8 b9
 have r_x09 := Ke.r r_x08 b9
 have o_x9 := Ke.o o_x8 b9
 have o_xp9 := Ke.o o_xp8 b9
 have c_a9 := Ke.c r_a9
 have c_x09 := Ke.c r_x09
 clear r_a8 c_a8 r_x08 c_x08 o_x8 o_xp8
 have f_x19 : Hid (Oq W9 W8.heap.size W9.heap.size v_x1 t) := ⟨o_x19, Nat.le_refl _⟩
 clear o_x19
 go_wp2_with fail
 refine (q2 W9 _ _ _ B9.out o_x9.out.sl o_xp9.out.sl f_x19.out.1.sh).mono ?_
 rintro e W10 ⟨rfl, b10⟩
 have z10 := b10.size
 have B10 := Ke.b B9 b10
 have r_a10 := Ke.r r_a9 b10
 have r_x010 := Ke.r r_x09 b10
 have o_x10 := Ke.o o_x9 b10
 have o_xp10 := Ke.o o_xp9 b10
 have c_a10 := Ke.c r_a10
 have c_x010 := Ke.c r_x010
 clear r_a9 c_a9 r_x09 c_x09 o_x9 o_xp9
 have f_x110 : Hid (Oq W10 W8.heap.size W9.heap.size v_x1 t) := Oq.later f_x19.out b10
 clear f_x19
 go_wp2_with fail
 refine wp_region_held_drew (S := fun w' => w'.cell? ⟨W7.heap.size, 0, none⟩ = some (.int .i64 id) ∧ w'.cell? ⟨W7.heap.size, 1, none⟩ = some (.slice ao_x L_x cap_x) ∧ w'.cell? ⟨W7.heap.size, 2, none⟩ = some (.int .i64 h.n) ∧ w'.cell? ⟨W7.heap.size, 3, none⟩ = some (.string h.r) ∧ w'.cell? ⟨W7.heap.size, 4, none⟩ = some (.slice ao_xp L_xp cap_xp) ∧ w'.cell? ⟨W7.heap.size, 5, none⟩ = some (.int .i64 s) ∧ w'.cell? ⟨W7.heap.size, 6, none⟩ = some (.int .i64 g.n) ∧ w'.cell? ⟨W7.heap.size, 7, none⟩ = some (.string g.r) ∧ w'.cell? ⟨w.heap.size, 0, none⟩ = some (.int .i64 id) ∧ w'.cell? ⟨w.heap.size, 1, none⟩ = some (.slice ao0 l.length cap0) ∧ w'.cell? ⟨w.heap.size, 2, none⟩ = some (.int .i64 h.n) ∧ w'.cell? ⟨w.heap.size, 3, none⟩ = some (.string h.r) ∧ w'.cell? ⟨w.heap.size, 4, none⟩ = some (.slice ao1 b.length cap1) ∧ w'.cell? ⟨w.heap.size, 5, none⟩ = some (.int .i64 s) ∧ w'.cell? ⟨w.heap.size, 6, none⟩ = some (.int .i64 g.n) ∧ w'.cell? ⟨w.heap.size, 7, none⟩ = some (.string g.r)) (by kernel_rfl) ⟨(c_x010 0), (c_x010 1), (c_x010 2), (c_x010 3), (c_x010 4), (c_x010 5), (c_x010 6), (c_x010 7), (c_a10 0), (c_a10 1), (c_a10 2), (c_a10 3), (c_a10 4), (c_a10 5), (c_a10 6), (c_a10 7)⟩ (fun hHeld => ?_)
 refine Ke.y 0 rfl (fun _ _ _ h => h) ?_
 try simp only [Act.put, pu1, pu2, pu3, pu4, pu5, pu6]
 refine Ke.y 1 rfl (fun _ _ _ h => h) ?_
 try simp only [Act.put, pu1, pu2, pu3, pu4, pu5, pu6]
 refine Ke.z 2 rfl (fun K hK => ?_)
 go_simp
 refine (to_mirror W10.drew _ _ id l h b s g (Sl.later (w := W10) (HS.out.later B10.out) (Below.drew (Below.refl _ _))) (Sl.later (w := W10) (HSB.out.later B10.out) (Below.drew (Below.refl _ _))) (by omega) (by omega)).mono ?_
 rintro e W11 ⟨v_u, v_up, rfl, o_u11, o_up11, b11⟩
 have b11 : Below W10.heap.size W10 W11 := (Below.drew (Below.refl _ _)).trans b11
 have o_u11 : Own W11 W10.heap.size W11.heap.size 9 _ _ := o_u11
 have o_up11 : Own W11 W10.heap.size W11.heap.size 5 _ _ := o_up11
 refine hK.out _ _ ⟨(keepR (W := W10) hHeld.1 b11), (keepR (W := W10) hHeld.2.1 b11), (keepR (W := W10) hHeld.2.2.1 b11), (keepR (W := W10) hHeld.2.2.2.1 b11), (keepR (W := W10) hHeld.2.2.2.2.1 b11), (keepR (W := W10) hHeld.2.2.2.2.2.1 b11), (keepR (W := W10) hHeld.2.2.2.2.2.2.1 b11), (keepR (W := W10) hHeld.2.2.2.2.2.2.2.1 b11), (keepR (W := W10) hHeld.2.2.2.2.2.2.2.2.1 b11), (keepR (W := W10) hHeld.2.2.2.2.2.2.2.2.2.1 b11), (keepR (W := W10) hHeld.2.2.2.2.2.2.2.2.2.2.1 b11), (keepR (W := W10) hHeld.2.2.2.2.2.2.2.2.2.2.2.1 b11), (keepR (W := W10) hHeld.2.2.2.2.2.2.2.2.2.2.2.2.1 b11), (keepR (W := W10) hHeld.2.2.2.2.2.2.2.2.2.2.2.2.2.1 b11), (keepR (W := W10) hHeld.2.2.2.2.2.2.2.2.2.2.2.2.2.2.1 b11), (keepR (W := W10) hHeld.2.2.2.2.2.2.2.2.2.2.2.2.2.2.2 b11)⟩ (fun hHeld => ?_)
 clear hK K
 try simp only [Act.put, pu1, pu2, pu3, pu4, pu5, pu6]
 obtain ⟨lo_u, hi_u, lo_up, hi_up, d1_u, d2_u, d3_u, d4_u, d5_u, d6_u, d7_u, oo_u, oo_up⟩ := Sr.pairN o_u11 o_up11 b11.size
 clear o_u11 o_up11
 obtain ⟨ao_u, L_u, cap_u, rfl, _, _⟩ := oo_u.form
 obtain ⟨ao_up, L_up, cap_up, rfl, _, _⟩ := oo_up.form
 have o_u11 : Hid (Own W11 lo_u hi_u 9 (.slice ao_u L_u cap_u) (ss l)) := oo_u
 have o_up11 : Hid (Own W11 lo_up hi_up 5 (.slice ao_up L_up cap_up) (bs b)) := oo_up
 clear oo_u oo_up
 have z11 := b11.size
 have B11 := Ke.b B10 b11
 have r_a11 := Ke.r r_a10 b11
 have r_x011 := Ke.r r_x010 b11
 have o_x11 := Ke.o o_x10 b11
 have o_xp11 := Ke.o o_xp10 b11
 have c_a11 := Ke.c r_a11
 have c_x011 := Ke.c r_x011
 clear r_a10 c_a10 r_x010 c_x010 o_x10 o_xp10
 have f_x111 : Hid (Oq W11 W8.heap.size W9.heap.size v_x1 t) := Oq.later f_x110.out b11
 clear f_x110
 refine Ke.z 3 rfl (fun K hK => ?_)
 go_simp
 refine (eq_mirror W11 _ _ _ _ id l h b s g o_x11.out.sl o_u11.out.sl o_xp11.out.sl o_up11.out.sl (by omega) (by omega)).mono ?_
 rintro e W12 ⟨rfl, b12⟩
 refine hK.out _ _ ⟨(keepR (W := W11) hHeld.1 b12), (keepR (W := W11) hHeld.2.1 b12), (keepR (W := W11) hHeld.2.2.1 b12), (keepR (W := W11) hHeld.2.2.2.1 b12), (keepR (W := W11) hHeld.2.2.2.2.1 b12), (keepR (W := W11) hHeld.2.2.2.2.2.1 b12), (keepR (W := W11) hHeld.2.2.2.2.2.2.1 b12), (keepR (W := W11) hHeld.2.2.2.2.2.2.2.1 b12), (keepR (W := W11) hHeld.2.2.2.2.2.2.2.2.1 b12), (keepR (W := W11) hHeld.2.2.2.2.2.2.2.2.2.1 b12), (keepR (W := W11) hHeld.2.2.2.2.2.2.2.2.2.2.1 b12), (keepR (W := W11) hHeld.2.2.2.2.2.2.2.2.2.2.2.1 b12), (keepR (W := W11) hHeld.2.2.2.2.2.2.2.2.2.2.2.2.1 b12), (keepR (W := W11) hHeld.2.2.2.2.2.2.2.2.2.2.2.2.2.1 b12), (keepR (W := W11) hHeld.2.2.2.2.2.2.2.2.2.2.2.2.2.2.1 b12), (keepR (W := W11) hHeld.2.2.2.2.2.2.2.2.2.2.2.2.2.2.2 b12)⟩ (fun hHeld => ?_)
 clear hK K
 try simp only [Act.put, pu1, pu2, pu3, pu4, pu5, pu6]
 have z12 := b12.size
 have B12 := Ke.b B11 b12
 have r_a12 := Ke.r r_a11 b12
 have r_x012 := Ke.r r_x011 b12
 have o_x12 := Ke.o o_x11 b12
 have o_xp12 := Ke.o o_xp11 b12
 have o_u12 := Ke.o o_u11 b12
 have o_up12 := Ke.o o_up11 b12
 have c_a12 := Ke.c r_a12
 have c_x012 := Ke.c r_x012
 clear r_a11 c_a11 r_x011 c_x011 o_x11 o_xp11 o_u11 o_up11
 have f_x112 : Hid (Oq W12 W8.heap.size W9.heap.size v_x1 t) := Oq.later f_x111.out b12
 clear f_x111
 refine Ke.y 4 rfl (fun _ _ _ h => h) ?_
 try simp only [Act.put, pu1, pu2, pu3, pu4, pu5, pu6]
 refine wpAnyH_done (by kernel_rfl) ?_ _
 clear hHeld
 clear o_u12
 clear o_up12
 go_wp2_with fail
 refine (to_heads W12 _ t (HT.out.later B12.out) (by omega)).mono ?_
 rintro e W13 ⟨v_u1, rfl, o_u113, b13⟩
 have z13 := b13.size
 have B13 := Ke.b B12 b13
 have r_a13 := Ke.r r_a12 b13
 have r_x013 := Ke.r r_x012 b13
 have o_x13 := Ke.o o_x12 b13
 have o_xp13 := Ke.o o_xp12 b13
 have c_a13 := Ke.c r_a13
 have c_x013 := Ke.c r_x013
 clear r_a12 c_a12 r_x012 c_x012 o_x12 o_xp12
 have f_x113 : Hid (Oq W13 W8.heap.size W9.heap.size v_x1 t) := Oq.later f_x112.out b13
 clear f_x112
 have f_u113 : Hid (Oq W13 W12.heap.size W13.heap.size v_u1 t) := ⟨o_u113, Nat.le_refl _⟩
 clear o_u113
 go_wp2_with fail
 refine (eq_heads W13 v_x1 v_u1 t f_x113.out.1.sh f_u113.out.1.sh (by omega)).mono ?_
 rintro e W14 ⟨rfl, b14⟩
 have z14 := b14.size
 have B14 := Ke.b B13 b14
 have r_a14 := Ke.r r_a13 b14
 have r_x014 := Ke.r r_x013 b14
 have o_x14 := Ke.o o_x13 b14
 have o_xp14 := Ke.o o_xp13 b14
 have c_a14 := Ke.c r_a14
 have c_x014 := Ke.c r_x014
 clear r_a13 c_a13 r_x013 c_x013 o_x13 o_xp13
 have f_x114 : Hid (Oq W14 W8.heap.size W9.heap.size v_x1 t) := Oq.later f_x113.out b14
 have f_u114 : Hid (Oq W14 W12.heap.size W13.heap.size v_u1 t) := Oq.later f_u113.out b14
 clear f_x113 f_u113
 clear f_u114
 go_wp2
 go_ret
 exact ⟨rfl, B14.out⟩
end Go.Proofs.YtchonoonclllbaaGreatDoor.Mi
