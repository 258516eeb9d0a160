/- Texts in one: SrT. -/
import Derived.Test.YtfpaichdkddglaaGreatDoorPm17
import Derived.Test.YtfpaichdkddglaaGreatDoorPm18
import Derived.Test.YtfpaichdkddglaaGreatDoorPm21
import Derived.Test.YtfpaichdkddglaaGreatDoorPm9
import Derived.Deep.DeepCutAuto
namespace Go.Proofs.YtfpaichdkddglaaGreatDoor.Sr
open Go.RowKit Go.Proofs.YtfpaichdkddglaaGreatDoor.Mem Go.Proofs.YtfpaichdkddglaaGreatDoor.Laws Go.Proofs.YtfpaichdkddglaaGreatDoor.Bytes Go.Proofs.YtfpaichdkddglaaGreatDoor.Sha Go.Proofs.YtfpaichdkddglaaGreatDoor.Tr Go.Proofs.YtfpaichdkddglaaGreatDoor.Draw Go.Proofs.YtfpaichdkddglaaGreatDoor.He Go.Proofs.YtfpaichdkddglaaGreatDoor.Lg
set_option linter.unusedVariables false
set_option linter.unusedSimpArgs false
theorem tot_small : ∀ l : List ByteArray, (∀ s ∈ l, s.size ≤ 4) → Puts.tot l ≤ 4 * l.length := by
 intro l
 induction l with
 | nil => intro _; exact Nat.le_refl _
 | cons a r ih =>
  intro hl
  have h1 := hl a (List.mem_cons_self ..)
  have h2 := ih (fun s hs => hl s (List.mem_cons_of_mem _ hs))
  simp only [Puts.tot, List.length_cons]
  omega
set_option maxRecDepth 1000000 in
set_option maxHeartbeats 16000000 in
theorem stored12 (w : World) (v0 : Value) (xs0 : List Int) (h0 : Sl w v0 (bs xs0)) (y0 : Byt xs0) (m0 : xs0.length ≤ maxLen)
  (iCom : ∀ W, Below w.heap.size w W → ∀ (v1 v2 v3 v4 : Value) (st : Sto) (t : List Hd) (hd : Hd) (x : List ByteArray), Sl W v1 (ss st.l) → Sl W v2 (bs st.b) → Byt st.b → Sh W v3 t → Sl W v4 (ss x) → st.l.length ≤ 1000 → st.b.length ≤ 50000 → (∀ s ∈ st.l, s.size ≤ 1000) → st.h.r.size ≤ 1000 → t.length ≤ 1000 → (∀ n ∈ t, n.r.size ≤ 1000) → hd.r.size ≤ 1000 → x.length ≤ 1000 → (∀ s ∈ x, s.size ≤ 1000) → Calls Tryz.prog 11 #[.agg #[v1, .int .i64 st.h.n, .string st.h.r, v2, .int .i64 st.s], v3, .agg #[.int .i64 hd.n, .string hd.r], v4] W fun e w' => ∃ u ub, e = .returned (.tuple #[.agg #[u, .int .i64 (commit st t hd x).1.h.n, .string (commit st t hd x).1.h.r, ub, .int .i64 (commit st t hd x).1.s], .int .i64 (commit st t hd x).2]) ∧ Own w' W.heap.size w'.heap.size 9 u (ss (commit st t hd x).1.l) ∧ Own w' W.heap.size w'.heap.size 5 ub (bs (commit st t hd x).1.b) ∧ Below W.heap.size W w')
  (iOpen : ∀ W, Below w.heap.size w W → ∀ (v1 v2 : Value) (t : List Hd) (b : List Int), Sh W v1 t → Sl W v2 (bs b) → Byt b → t.length ≤ 1000 → (∀ n ∈ t, n.r.size ≤ 1000) → b.length ≤ 100000 → Calls Tryz.prog 18 #[v1, v2] W fun e w' => ∃ u ub, e = .returned (.tuple #[.agg #[u, .int .i64 (openS t b).1.h.n, .string (openS t b).1.h.r, ub, .int .i64 (openS t b).1.s], .int .i64 ((openS t b).2 : Int)]) ∧ Own w' W.heap.size w'.heap.size 9 u (ss (openS t b).1.l) ∧ Own w' W.heap.size w'.heap.size 5 ub (bs (openS t b).1.b) ∧ Below W.heap.size W w')
  (iSOk : ∀ W, Below w.heap.size w W → ∀ (v1 v2 : Value) (st : Sto), Sl W v1 (ss st.l) → Sl W v2 (bs st.b) → Byt st.b → st.l.length ≤ 1000 → st.b.length ≤ 100000 → (∀ s ∈ st.l, s.size ≤ 1000) → st.h.r.size ≤ 1000 → Calls Tryz.prog 15 #[.agg #[v1, .int .i64 st.h.n, .string st.h.r, v2, .int .i64 st.s]] W fun e w' => e = .returned (.bool (storeOk st)) ∧ Below W.heap.size W w') :
  Calls Tryz.prog 4 #[v0] w fun e w' => e = .returned (.bool true) ∧ Below w.heap.size w w' := by
 have hs := h0
 have hby := y0
 obtain ⟨ao0, cap0, rfl, -, -, -⟩ := h0
 rw [Mem.bs_len] at hs ⊢
 clear m0 y0
 by_cases hbig : 1048576 < xs0.length
 ·
  have qb := big_yes w ao0 xs0.length cap0 hbig
  clear iCom iOpen iSOk
  go_enter Tryz.func4, Tryz.ntmps4
  go_wp2_with fail
  refine qb.mono ?_
  rintro e w1 ⟨rfl, rfl⟩
  go_wp2
  go_ret
  exact ⟨rfl, Below.refl _ _⟩
 have qb := big_no w ao0 xs0.length cap0 hbig
 have qd : ∀ W, Below w.heap.size w W → _ := fun W hW => drawCommit_any W _ xs0 (hs.later hW) hby (by omega)
 clear hbig hs hby
 have B0 : Hid (Below w.heap.size w w) := Below.refl _ _
 obtain ⟨iH, hiH, hzHa, hzHb, hzHc⟩ := info_parts infoH
 go_enter Tryz.func4, Tryz.ntmps4
 go_wp2_with fail
 refine qb.mono ?_
 rintro e W_ ⟨rfl, hW_⟩
 subst hW_
 clear qb
 go_wp2_with fail
 refine (qd w B0.out).mono ?_
 rintro e W1 ⟨st, t, h, x, v_v, v_u, v_t, v_x, rfl, hA, ht9, htz, hhr, hx9, hxz, sv, su, sht, sx, b1⟩
 have z1 : w.heap.size ≤ W1.heap.size := b1.size
 have B1 : Hid (Below w.heap.size w W1) := B0.out.trans (b1.mono B0.out.size)
 obtain ⟨ao_v, cap_v, rfl, hcv⟩ := sv.form
 obtain ⟨ao_u, cap_u, rfl, hcu⟩ := su.form
 obtain ⟨ao_t, cap_t, rfl, hct⟩ := sht.form
 obtain ⟨ao_z, cap_z, rfl, hcz⟩ := sx.form
 simp only [ss_len, bs_len] at *
 have f_v1 : Hid (Sl W1 (.slice ao_v st.l.length cap_v) (ss st.l)) := sv
 have f_u1 : Hid (Sl W1 (.slice ao_u st.b.length cap_u) (bs st.b)) := su
 have f_t1 : Hid (Sh W1 (.slice ao_t t.length cap_t) t) := sht
 have f_z1 : Hid (Sl W1 (.slice ao_z x.length cap_z) (ss x)) := sx
 clear sv su sht sx
 obtain ⟨W2, HW2, b2, y2, hS2, r_s2, r_h2⟩ : ∃ X, Hid (((W1.alloc (.cells #[.slice ao_v st.l.length cap_v, .int .i64 st.h.n, .string st.h.r, .slice ao_u st.b.length cap_u, .int .i64 st.s] 37)).alloc (.cells #[.int .i64 h.n, .string h.r] 28)) = X) ∧ Below W1.heap.size W1 X ∧ W1.heap.size + 2 ≤ X.heap.size ∧ Hid (X.heap.size = W1.heap.size + 1 + 1) ∧ Hid (X.heap[W1.heap.size]? = some (.cells #[.slice ao_v st.l.length cap_v, .int .i64 st.h.n, .string st.h.r, .slice ao_u st.b.length cap_u, .int .i64 st.s] 37 (0, 0))) ∧ Hid (X.heap[W1.heap.size + 1]? = some (.cells #[.int .i64 h.n, .string h.r] 28 (0, 0))) := ⟨_, rfl, (((Below.refl _ _).alloc (Nat.le_refl _) _).alloc (by simp) _), by simp, by show _ = _; simp, (by show _ = _; exact alloc_nth2_0 W1 _ _), (by show _ = _; exact alloc_nth2_1 W1 _ _)⟩
 have z2 : W1.heap.size ≤ W2.heap.size := b2.size
 have B2 : Hid (Below w.heap.size w W2) := B1.out.trans (b2.mono B1.out.size)
 have f_v2 : Hid (Sl W2 (.slice ao_v st.l.length cap_v) (ss st.l)) := Sl.later f_v1.out b2
 have f_u2 : Hid (Sl W2 (.slice ao_u st.b.length cap_u) (bs st.b)) := Sl.later f_u1.out b2
 have f_t2 : Hid (Sh W2 (.slice ao_t t.length cap_t) t) := Sh.later f_t1.out b2
 have f_z2 : Hid (Sl W2 (.slice ao_z x.length cap_z) (ss x)) := Sl.later f_z1.out b2
 clear f_v1 f_u1 f_t1 f_z1
 have htot := tot_small x hxz
 have hby := hA.byt
 have hbl := hA.bl
 have hln := hA.len
 have hsh := hA.hd
 have hsz : ∀ s ∈ st.l, s.size ≤ 1000 := fun s h9 => Nat.le_trans (hA.sz s h9) (by omega)
 have hxz2 : ∀ s ∈ x, s.size ≤ 1000 := fun s h9 => Nat.le_trans (hxz s h9) (by omega)
 have htz2 : ∀ y ∈ t, y.r.size ≤ 1000 := fun y h9 => Nat.le_trans (htz y h9) (by omega)
 have hbd := body_len h x
 have q1 : ∀ W v1 v2 v3 v4, Below w.heap.size w W → Sl W v1 (ss st.l) → Sl W v2 (bs st.b) → Sh W v3 t → Sl W v4 (ss x) → _ := fun W v1 v2 v3 v4 hW h1 h2 h3 h4 => iCom W hW v1 v2 v3 v4 st t h x h1 h2 hby h3 h4 (by omega) (by omega) hsz (by omega) (by omega) htz2 (by omega) (by omega) hxz2
 have q2 : ∀ W v1 v2 v3 v4, Sl W v1 (ss st.l) → Sl W v2 (bs st.b) → Sh W v3 t → Sl W v4 (ss x) → _ := fun W v1 v2 v3 v4 h1 h2 h3 h4 => commit_spec W v1 v2 v3 v4 st t h x h1 h2 hby h3 h4 (by omega) (by omega) (by omega) (by omega) (fun s h9 => Nat.le_trans (hsz s h9) (by omega)) (fun s h9 => Nat.le_trans (hxz2 s h9) (by omega)) (by omega) (by omega)
 have HG : Hid ((commit st t h x).2 = 0 → _) := fun hc => stored (st := st) (t := t) (h := h) (x := x) hby hc (by omega)
 have HB : Hid (¬ (commit st t h x).2 = 0 → (commit st t h x).1 = st) := fun hc => commit_bad hc
 have HZ2 : Hid ((commit st t h x).2 = 0 → ∀ s ∈ (commit st t h x).1.l, s.size ≤ 1000) := fun hc s h9 => by
  obtain ⟨_, _, _, k4, k5⟩ := commit_ok (st := st) (t := t) (h := h) (x := x) hby hc
  rw [k4, (commit1_good k5).2.2.2.2.2.2] at h9
  rcases List.mem_append.1 h9 with h8 | h8
  ·
   exact hsz s h8
  ·
   exact hxz2 s h8
 obtain ⟨st2, c, hE⟩ : ∃ S c, commit st t h x = (S, c) := ⟨_, _, rfl⟩
 rw [hE] at HG HB HZ2
 simp only [hE] at q1 q2
 simp only at HG HB HZ2
 have nc : (c != c) = false := by simp
 have ne : (c == c) = true := by simp
 clear hE
 go_wp2_with fail
 rw [HW2.out]
 refine (q1 W2 _ _ _ _ B2.out f_v2.out f_u2.out f_t2.out f_z2.out).mono ?_
 rintro e W3 ⟨v_x, v_xp, rfl, o_x3, o_xp3, b3⟩
 obtain ⟨lo_x, hi_x, lo_xp, hi_xp, d1_x, d2_x, d3_x, d4_x, d5_x, d6_x, d7_x, oo_x, oo_xp⟩ := Sr.pairN o_x3 o_xp3 b3.size
 clear o_x3 o_xp3
 obtain ⟨ao_x, L_x, cap_x, rfl, _, _⟩ := oo_x.form
 obtain ⟨ao_xp, L_xp, cap_xp, rfl, _, _⟩ := oo_xp.form
 have o_x3 : Hid (Own W3 lo_x hi_x 9 (.slice ao_x L_x cap_x) (ss st2.l)) := oo_x
 have o_xp3 : Hid (Own W3 lo_xp hi_xp 5 (.slice ao_xp L_xp cap_xp) (bs st2.b)) := oo_xp
 clear oo_x oo_xp
 have z3 : W2.heap.size ≤ W3.heap.size := b3.size
 have B3 : Hid (Below w.heap.size w W3) := B2.out.trans (b3.mono B2.out.size)
 have r_s3 : Hid (W3.heap[W1.heap.size]? = some (.cells #[.slice ao_v st.l.length cap_v, .int .i64 st.h.n, .string st.h.r, .slice ao_u st.b.length cap_u, .int .i64 st.s] 37 (0, 0))) := rowKeep r_s2.out b3
 have r_h3 : Hid (W3.heap[W1.heap.size + 1]? = some (.cells #[.int .i64 h.n, .string h.r] 28 (0, 0))) := rowKeep r_h2.out b3
 have c_s3_0 : W3.cell? ⟨W1.heap.size, 0, none⟩ = some (.slice ao_v st.l.length cap_v) := row_at r_s3.out 0
 have c_s3_1 : W3.cell? ⟨W1.heap.size, 1, none⟩ = some (.int .i64 st.h.n) := row_at r_s3.out 1
 have c_s3_2 : W3.cell? ⟨W1.heap.size, 2, none⟩ = some (.string st.h.r) := row_at r_s3.out 2
 have c_s3_3 : W3.cell? ⟨W1.heap.size, 3, none⟩ = some (.slice ao_u st.b.length cap_u) := row_at r_s3.out 3
 have c_s3_4 : W3.cell? ⟨W1.heap.size, 4, none⟩ = some (.int .i64 st.s) := row_at r_s3.out 4
 have c_h3_0 : W3.cell? ⟨W1.heap.size + 1, 0, none⟩ = some (.int .i64 h.n) := row_at r_h3.out 0
 have c_h3_1 : W3.cell? ⟨W1.heap.size + 1, 1, none⟩ = some (.string h.r) := row_at r_h3.out 1
 clear r_s2 r_h2
 have f_v3 : Hid (Sl W3 (.slice ao_v st.l.length cap_v) (ss st.l)) := Sl.later f_v2.out b3
 have f_u3 : Hid (Sl W3 (.slice ao_u st.b.length cap_u) (bs st.b)) := Sl.later f_u2.out b3
 have f_t3 : Hid (Sh W3 (.slice ao_t t.length cap_t) t) := Sh.later f_t2.out b3
 have f_z3 : Hid (Sl W3 (.slice ao_z x.length cap_z) (ss x)) := Sl.later f_z2.out b3
 clear f_v2 f_u2 f_t2 f_z2
 obtain rfl : L_xp = st2.b.length := by obtain ⟨a9, L9, c9, he, h1, h2⟩ := Mem.Own.form o_xp3.out; injection he with _ he2 _; rw [bs_len] at h1 h2; omega
 have a_s3_0 : ∀ o, (W3.alloc o).cell? ⟨W1.heap.size, 0, none⟩ = some (.slice ao_v st.l.length cap_v) := fun o => keepR c_s3_0 ((Below.refl _ _).alloc (Nat.le_refl _) o)
 have a_s3_1 : ∀ o, (W3.alloc o).cell? ⟨W1.heap.size, 1, none⟩ = some (.int .i64 st.h.n) := fun o => keepR c_s3_1 ((Below.refl _ _).alloc (Nat.le_refl _) o)
 have a_s3_2 : ∀ o, (W3.alloc o).cell? ⟨W1.heap.size, 2, none⟩ = some (.string st.h.r) := fun o => keepR c_s3_2 ((Below.refl _ _).alloc (Nat.le_refl _) o)
 have a_s3_3 : ∀ o, (W3.alloc o).cell? ⟨W1.heap.size, 3, none⟩ = some (.slice ao_u st.b.length cap_u) := fun o => keepR c_s3_3 ((Below.refl _ _).alloc (Nat.le_refl _) o)
 have a_s3_4 : ∀ o, (W3.alloc o).cell? ⟨W1.heap.size, 4, none⟩ = some (.int .i64 st.s) := fun o => keepR c_s3_4 ((Below.refl _ _).alloc (Nat.le_refl _) o)
 have a_h3_0 : ∀ o, (W3.alloc o).cell? ⟨W1.heap.size + 1, 0, none⟩ = some (.int .i64 h.n) := fun o => keepR c_h3_0 ((Below.refl _ _).alloc (Nat.le_refl _) o)
 have a_h3_1 : ∀ o, (W3.alloc o).cell? ⟨W1.heap.size + 1, 1, none⟩ = some (.string h.r) := fun o => keepR c_h3_1 ((Below.refl _ _).alloc (Nat.le_refl _) o)
 obtain ⟨W4, HW4, b4, y4, hS4, r_x4⟩ : ∃ X, Hid ((W3.alloc (.cells #[.slice ao_x L_x cap_x, .int .i64 st2.h.n, .string st2.h.r, .slice ao_xp st2.b.length cap_xp, .int .i64 st2.s] 37)) = X) ∧ Below W3.heap.size W3 X ∧ W3.heap.size + 1 ≤ X.heap.size ∧ Hid (X.heap.size = W3.heap.size + 1) ∧ Hid (X.heap[W3.heap.size]? = some (.cells #[.slice ao_x L_x cap_x, .int .i64 st2.h.n, .string st2.h.r, .slice ao_xp st2.b.length cap_xp, .int .i64 st2.s] 37 (0, 0))) := ⟨_, rfl, ((Below.refl _ _).alloc (Nat.le_refl _) _), by simp, by show _ = _; simp, (by show _ = _; exact alloc_nth1_0 W3 _)⟩
 have z4 : W3.heap.size ≤ W4.heap.size := b4.size
 have B4 : Hid (Below w.heap.size w W4) := B3.out.trans (b4.mono B3.out.size)
 have r_s4 : Hid (W4.heap[W1.heap.size]? = some (.cells #[.slice ao_v st.l.length cap_v, .int .i64 st.h.n, .string st.h.r, .slice ao_u st.b.length cap_u, .int .i64 st.s] 37 (0, 0))) := rowKeep r_s3.out b4
 have r_h4 : Hid (W4.heap[W1.heap.size + 1]? = some (.cells #[.int .i64 h.n, .string h.r] 28 (0, 0))) := rowKeep r_h3.out b4
 have o_x4 : Hid (Own W4 (lo_x) (hi_x) 9 (.slice ao_x L_x cap_x) (ss st2.l)) := Own.later o_x3.out b4 (by omega)
 have o_xp4 : Hid (Own W4 (lo_xp) (hi_xp) 5 (.slice ao_xp st2.b.length cap_xp) (bs st2.b)) := Own.later o_xp3.out b4 (by omega)
 clear r_s3 c_s3_0 c_s3_1 c_s3_2 c_s3_3 c_s3_4 r_h3 c_h3_0 c_h3_1 o_x3 o_xp3
 have f_v4 : Hid (Sl W4 (.slice ao_v st.l.length cap_v) (ss st.l)) := Sl.later f_v3.out b4
 have f_u4 : Hid (Sl W4 (.slice ao_u st.b.length cap_u) (bs st.b)) := Sl.later f_u3.out b4
 have f_t4 : Hid (Sh W4 (.slice ao_t t.length cap_t) t) := Sh.later f_t3.out b4
 have f_z4 : Hid (Sl W4 (.slice ao_z x.length cap_z) (ss x)) := Sl.later f_z3.out b4
 clear f_v3 f_u3 f_t3 f_z3
 go_wp2_with fail
 rw [HW4.out]
 clear a_s3_0 a_s3_1 a_s3_2 a_s3_3 a_s3_4 a_h3_0 a_h3_1
 refine (q2 W4 _ _ _ _ f_v4.out f_u4.out f_t4.out f_z4.out).mono ?_
 rintro e W5 ⟨v_y, v_yp, rfl, o_y5, o_yp5, b5⟩
 obtain ⟨lo_y, hi_y, lo_yp, hi_yp, d1_y, d2_y, d3_y, d4_y, d5_y, d6_y, d7_y, oo_y, oo_yp⟩ := Sr.pairN o_y5 o_yp5 b5.size
 clear o_y5 o_yp5
 obtain ⟨ao_y, L_y, cap_y, rfl, _, _⟩ := oo_y.form
 obtain ⟨ao_yp, L_yp, cap_yp, rfl, _, _⟩ := oo_yp.form
 have o_y5 : Hid (Own W5 lo_y hi_y 9 (.slice ao_y L_y cap_y) (ss st2.l)) := oo_y
 have o_yp5 : Hid (Own W5 lo_yp hi_yp 5 (.slice ao_yp L_yp cap_yp) (bs st2.b)) := oo_yp
 clear oo_y oo_yp
 have z5 : W4.heap.size ≤ W5.heap.size := b5.size
 have B5 : Hid (Below w.heap.size w W5) := B4.out.trans (b5.mono B4.out.size)
 have r_s5 : Hid (W5.heap[W1.heap.size]? = some (.cells #[.slice ao_v st.l.length cap_v, .int .i64 st.h.n, .string st.h.r, .slice ao_u st.b.length cap_u, .int .i64 st.s] 37 (0, 0))) := rowKeep r_s4.out b5
 have r_h5 : Hid (W5.heap[W1.heap.size + 1]? = some (.cells #[.int .i64 h.n, .string h.r] 28 (0, 0))) := rowKeep r_h4.out b5
 have r_x5 : Hid (W5.heap[W3.heap.size]? = some (.cells #[.slice ao_x L_x cap_x, .int .i64 st2.h.n, .string st2.h.r, .slice ao_xp st2.b.length cap_xp, .int .i64 st2.s] 37 (0, 0))) := rowKeep r_x4.out b5
 have o_x5 : Hid (Own W5 (lo_x) (hi_x) 9 (.slice ao_x L_x cap_x) (ss st2.l)) := Own.later o_x4.out b5 (by omega)
 have o_xp5 : Hid (Own W5 (lo_xp) (hi_xp) 5 (.slice ao_xp st2.b.length cap_xp) (bs st2.b)) := Own.later o_xp4.out b5 (by omega)
 have c_s5_0 : W5.cell? ⟨W1.heap.size, 0, none⟩ = some (.slice ao_v st.l.length cap_v) := row_at r_s5.out 0
 have c_s5_3 : W5.cell? ⟨W1.heap.size, 3, none⟩ = some (.slice ao_u st.b.length cap_u) := row_at r_s5.out 3
 have c_h5_0 : W5.cell? ⟨W1.heap.size + 1, 0, none⟩ = some (.int .i64 h.n) := row_at r_h5.out 0
 have c_h5_1 : W5.cell? ⟨W1.heap.size + 1, 1, none⟩ = some (.string h.r) := row_at r_h5.out 1
 have c_x5_0 : W5.cell? ⟨W3.heap.size, 0, none⟩ = some (.slice ao_x L_x cap_x) := row_at r_x5.out 0
 have c_x5_1 : W5.cell? ⟨W3.heap.size, 1, none⟩ = some (.int .i64 st2.h.n) := row_at r_x5.out 1
 have c_x5_2 : W5.cell? ⟨W3.heap.size, 2, none⟩ = some (.string st2.h.r) := row_at r_x5.out 2
 have c_x5_3 : W5.cell? ⟨W3.heap.size, 3, none⟩ = some (.slice ao_xp st2.b.length cap_xp) := row_at r_x5.out 3
 have c_x5_4 : W5.cell? ⟨W3.heap.size, 4, none⟩ = some (.int .i64 st2.s) := row_at r_x5.out 4
 clear r_s4 r_h4 r_x4 o_x4 o_xp4
 have f_v5 : Hid (Sl W5 (.slice ao_v st.l.length cap_v) (ss st.l)) := Sl.later f_v4.out b5
 have f_t5 : Hid (Sh W5 (.slice ao_t t.length cap_t) t) := Sh.later f_t4.out b5
 clear f_v4 f_u4 f_t4 f_z4
 have a_s5_0 : ∀ o, (W5.alloc o).cell? ⟨W1.heap.size, 0, none⟩ = some (.slice ao_v st.l.length cap_v) := fun o => keepR c_s5_0 ((Below.refl _ _).alloc (Nat.le_refl _) o)
 have a_s5_3 : ∀ o, (W5.alloc o).cell? ⟨W1.heap.size, 3, none⟩ = some (.slice ao_u st.b.length cap_u) := fun o => keepR c_s5_3 ((Below.refl _ _).alloc (Nat.le_refl _) o)
 have a_h5_0 : ∀ o, (W5.alloc o).cell? ⟨W1.heap.size + 1, 0, none⟩ = some (.int .i64 h.n) := fun o => keepR c_h5_0 ((Below.refl _ _).alloc (Nat.le_refl _) o)
 have a_h5_1 : ∀ o, (W5.alloc o).cell? ⟨W1.heap.size + 1, 1, none⟩ = some (.string h.r) := fun o => keepR c_h5_1 ((Below.refl _ _).alloc (Nat.le_refl _) o)
 have a_x5_0 : ∀ o, (W5.alloc o).cell? ⟨W3.heap.size, 0, none⟩ = some (.slice ao_x L_x cap_x) := fun o => keepR c_x5_0 ((Below.refl _ _).alloc (Nat.le_refl _) o)
 have a_x5_1 : ∀ o, (W5.alloc o).cell? ⟨W3.heap.size, 1, none⟩ = some (.int .i64 st2.h.n) := fun o => keepR c_x5_1 ((Below.refl _ _).alloc (Nat.le_refl _) o)
 have a_x5_2 : ∀ o, (W5.alloc o).cell? ⟨W3.heap.size, 2, none⟩ = some (.string st2.h.r) := fun o => keepR c_x5_2 ((Below.refl _ _).alloc (Nat.le_refl _) o)
 have a_x5_3 : ∀ o, (W5.alloc o).cell? ⟨W3.heap.size, 3, none⟩ = some (.slice ao_xp st2.b.length cap_xp) := fun o => keepR c_x5_3 ((Below.refl _ _).alloc (Nat.le_refl _) o)
 have a_x5_4 : ∀ o, (W5.alloc o).cell? ⟨W3.heap.size, 4, none⟩ = some (.int .i64 st2.s) := fun o => keepR c_x5_4 ((Below.refl _ _).alloc (Nat.le_refl _) o)
 obtain ⟨W6, HW6, b6, y6, hS6, r_y6⟩ : ∃ X, Hid ((W5.alloc (.cells #[.slice ao_y L_y cap_y, .int .i64 st2.h.n, .string st2.h.r, .slice ao_yp L_yp cap_yp, .int .i64 st2.s] 37)) = X) ∧ Below W5.heap.size W5 X ∧ W5.heap.size + 1 ≤ X.heap.size ∧ Hid (X.heap.size = W5.heap.size + 1) ∧ Hid (X.heap[W5.heap.size]? = some (.cells #[.slice ao_y L_y cap_y, .int .i64 st2.h.n, .string st2.h.r, .slice ao_yp L_yp cap_yp, .int .i64 st2.s] 37 (0, 0))) := ⟨_, rfl, ((Below.refl _ _).alloc (Nat.le_refl _) _), by simp, by show _ = _; simp, (by show _ = _; exact alloc_nth1_0 W5 _)⟩
 have z6 : W5.heap.size ≤ W6.heap.size := b6.size
 have B6 : Hid (Below w.heap.size w W6) := B5.out.trans (b6.mono B5.out.size)
 have r_s6 : Hid (W6.heap[W1.heap.size]? = some (.cells #[.slice ao_v st.l.length cap_v, .int .i64 st.h.n, .string st.h.r, .slice ao_u st.b.length cap_u, .int .i64 st.s] 37 (0, 0))) := rowKeep r_s5.out b6
 have r_h6 : Hid (W6.heap[W1.heap.size + 1]? = some (.cells #[.int .i64 h.n, .string h.r] 28 (0, 0))) := rowKeep r_h5.out b6
 have r_x6 : Hid (W6.heap[W3.heap.size]? = some (.cells #[.slice ao_x L_x cap_x, .int .i64 st2.h.n, .string st2.h.r, .slice ao_xp st2.b.length cap_xp, .int .i64 st2.s] 37 (0, 0))) := rowKeep r_x5.out b6
 have o_x6 : Hid (Own W6 (lo_x) (hi_x) 9 (.slice ao_x L_x cap_x) (ss st2.l)) := Own.later o_x5.out b6 (by omega)
 have o_xp6 : Hid (Own W6 (lo_xp) (hi_xp) 5 (.slice ao_xp st2.b.length cap_xp) (bs st2.b)) := Own.later o_xp5.out b6 (by omega)
 have o_y6 : Hid (Own W6 (lo_y) (hi_y) 9 (.slice ao_y L_y cap_y) (ss st2.l)) := Own.later o_y5.out b6 (by omega)
 have o_yp6 : Hid (Own W6 (lo_yp) (hi_yp) 5 (.slice ao_yp L_yp cap_yp) (bs st2.b)) := Own.later o_yp5.out b6 (by omega)
 have c_h6_0 : W6.cell? ⟨W1.heap.size + 1, 0, none⟩ = some (.int .i64 h.n) := row_at r_h6.out 0
 have c_h6_1 : W6.cell? ⟨W1.heap.size + 1, 1, none⟩ = some (.string h.r) := row_at r_h6.out 1
 have c_x6_0 : W6.cell? ⟨W3.heap.size, 0, none⟩ = some (.slice ao_x L_x cap_x) := row_at r_x6.out 0
 have c_x6_1 : W6.cell? ⟨W3.heap.size, 1, none⟩ = some (.int .i64 st2.h.n) := row_at r_x6.out 1
 have c_x6_2 : W6.cell? ⟨W3.heap.size, 2, none⟩ = some (.string st2.h.r) := row_at r_x6.out 2
 have c_x6_3 : W6.cell? ⟨W3.heap.size, 3, none⟩ = some (.slice ao_xp st2.b.length cap_xp) := row_at r_x6.out 3
 have c_x6_4 : W6.cell? ⟨W3.heap.size, 4, none⟩ = some (.int .i64 st2.s) := row_at r_x6.out 4
 have c_y6_1 : W6.cell? ⟨W5.heap.size, 1, none⟩ = some (.int .i64 st2.h.n) := row_at r_y6.out 1
 have c_y6_2 : W6.cell? ⟨W5.heap.size, 2, none⟩ = some (.string st2.h.r) := row_at r_y6.out 2
 have c_y6_4 : W6.cell? ⟨W5.heap.size, 4, none⟩ = some (.int .i64 st2.s) := row_at r_y6.out 4
 clear r_s5 c_s5_0 c_s5_3 r_h5 c_h5_0 c_h5_1 r_x5 c_x5_0 c_x5_1 c_x5_2 c_x5_3 c_x5_4 o_x5 o_xp5 o_y5 o_yp5
 have f_v6 : Hid (Sl W6 (.slice ao_v st.l.length cap_v) (ss st.l)) := Sl.later f_v5.out b6
 have f_t6 : Hid (Sh W6 (.slice ao_t t.length cap_t) t) := Sh.later f_t5.out b6
 clear f_v5 f_t5
 by_cases hc0 : c = 0
 ·
  obtain ⟨g1, g2, g3, g4, g5, g6⟩ := HG.out hc0
  subst hc0
  obtain ⟨p1, p2, _⟩ := ok_parts g1
  have hl2 := (logOk_yes p1).1
  have hh2 : st2.h.r.size ≤ 1000 := by rw [(logOk_yes p1).2]; exact Nat.le_trans (headOf_size _) (by omega)
  obtain ⟨U, nU, hU⟩ : ∃ U n, openS (h :: t) st2.b = (U, n) := ⟨_, _, rfl⟩
  have q3 : ∀ W v1 v2, Below w.heap.size w W → Sh W v1 (h :: t) → Sl W v2 (bs st2.b) → _ := fun W v1 v2 hW h1 h2 => iOpen W hW v1 v2 (h :: t) st2.b h1 h2 g6 (by simp only [List.length_cons]; omega) (fun y h9 => by rcases List.mem_cons.1 h9 with rfl | h8; omega; exact htz2 y h8) (by omega)
  simp only [hU] at q3 g4 g5
  have q4 : ∀ W v1 v2, Below w.heap.size w W → Sl W v1 (ss st2.l) → Sl W v2 (bs st2.b) → _ := fun W v1 v2 hW h1 h2 => iSOk W hW v1 v2 st2 h1 h2 g6 (by omega) (by omega) (HZ2.out rfl) hh2
  simp only [g1] at q4
  have G2 : Hid (st2.h = h) := g2
  have G4 : Hid (0 < nU ∨ 0 < st.b.length) := g4
  have G5 : Hid (U.l <+: st2.l) := g5
  have g3a : (st.b.length : Int) < (st2.b.length : Int) := by omega
  clear hU g2 g4 g5 iCom iOpen iSOk q1 q2 htz2 hxz2 hsz
  clear o_y6
  clear o_yp6
  go_upto_region 8 with fail
  rw [HW6.out]
  clear a_s5_0 a_s5_3 a_h5_0 a_h5_1 a_x5_0 a_x5_1 a_x5_2 a_x5_3 a_x5_4
  go_cut [11, 12] (fun s11 s12 wx => ∃ g : Nat, s11 = (.pointer (some ⟨g, 0, none⟩)) ∧ s12 = .int .i64 (nU : Int) ∧ W6.heap.size ≤ g ∧ g < wx.heap.size ∧ Below W6.heap.size W6 wx ∧ ∃ lo_g hi_g ao_g L_g cap_g lo_gp hi_gp ao_gp L_gp cap_gp, W6.heap.size ≤ lo_g ∧ lo_g ≤ hi_g ∧ hi_g ≤ wx.heap.size ∧ W6.heap.size ≤ lo_gp ∧ lo_gp ≤ hi_gp ∧ hi_gp ≤ wx.heap.size ∧ (hi_g ≤ lo_gp ∨ hi_gp ≤ lo_g) ∧ Own wx lo_g hi_g 9 (.slice ao_g L_g cap_g) (ss U.l) ∧ Own wx lo_gp hi_gp 5 (.slice ao_gp L_gp cap_gp) (bs U.b) ∧ (g < lo_g ∨ hi_g ≤ g) ∧ (g < lo_gp ∨ hi_gp ≤ g) ∧ wx.heap[g]? = some (.cells #[.slice ao_g L_g cap_g, .int .i64 U.h.n, .string U.h.r, .slice ao_gp L_gp cap_gp, .int .i64 U.s] 37 (0, 0)))
  case first =>
   have D6 : Hid (Below W6.heap.size W6 W6) := Below.refl _ _
   refine wp_region_held_drew (S := fun w' => w'.cell? ⟨W1.heap.size + 1, 0, none⟩ = some (.int .i64 h.n) ∧ w'.cell? ⟨W1.heap.size + 1, 1, none⟩ = some (.string h.r) ∧ w'.cell? ⟨W3.heap.size, 0, none⟩ = some (.slice ao_x L_x cap_x) ∧ w'.cell? ⟨W3.heap.size, 1, none⟩ = some (.int .i64 st2.h.n) ∧ w'.cell? ⟨W3.heap.size, 2, none⟩ = some (.string st2.h.r) ∧ w'.cell? ⟨W3.heap.size, 3, none⟩ = some (.slice ao_xp st2.b.length cap_xp) ∧ w'.cell? ⟨W3.heap.size, 4, none⟩ = some (.int .i64 st2.s)) (by kernel_rfl) ⟨c_h6_0, c_h6_1, c_x6_0, c_x6_1, c_x6_2, c_x6_3, c_x6_4⟩ (fun hHeld => ?_)
   (refine wpAnyH_take (i := 0) (v := ?v0x71) rfl (by kernel_rfl) (by kernel_rfl) (by kernel_rfl) (fun _ _ _ h => h) (Or.inl ⟨by rfl, ?hy0x71⟩) (by assumption) ?rest0x71; case hy0x71 => (intro w hSw; (try dsimp only at hSw); go_split_ands; go_simp; (try with_reducible rfl)))
   try simp only [Act.put, pu1, pu2, pu3, pu4, pu5, pu6]
   (refine wpAnyH_take (i := 2) (v := ?v2x72) rfl (by kernel_rfl) (by kernel_rfl) (by kernel_rfl) (fun _ _ _ h => h) (Or.inl ⟨by rfl, ?hy2x72⟩) (by assumption) ?rest2x72; case hy2x72 => (intro w hSw; (try dsimp only at hSw); go_split_ands; go_simp; (try with_reducible rfl)))
   try simp only [Act.put, pu1, pu2, pu3, pu4, pu5, pu6]
   (refine wpAnyH_take (i := 4) (v := ?v4x73) rfl (by kernel_rfl) (by kernel_rfl) (by kernel_rfl) (fun _ _ _ h => h) (Or.inl ⟨by rfl, ?hy4x73⟩) (by assumption) ?rest4x73; case hy4x73 => (intro w hSw; (try dsimp only at hSw); go_split_ands; go_simp; (try with_reducible rfl)))
   try simp only [Act.put, pu1, pu2, pu3, pu4, pu5, pu6]
   (refine wpAnyH_take (i := 5) (v := ?v5x74) rfl (by kernel_rfl) (by kernel_rfl) (by kernel_rfl) (fun _ _ _ h => h) (Or.inl ⟨by rfl, ?hy5x74⟩) (by assumption) ?rest5x74; case hy5x74 => (intro w hSw; (try dsimp only at hSw); go_split_ands; go_simp; (try with_reducible rfl)))
   try simp only [Act.put, pu1, pu2, pu3, pu4, pu5, pu6]
   clear r_s6
   clear r_h6 c_h6_0 c_h6_1
   clear o_x6
   clear f_v6
   refine wpAnyH_ready (rs := [1, 10]) (by kernel_rfl) (by simp) ?_
   refine AllReadyH.cons rfl (fun K hK => ?_) (AllReadyH.cons rfl (fun K hK => ?_) AllReadyH.nil)
   ·
    go_simp
    refine hK.out _ _ ⟨(keepR (W := W6.drew) hHeld.1 ((Below.refl _ _).alloc (Nat.le_refl _) _)), (keepR (W := W6.drew) hHeld.2.1 ((Below.refl _ _).alloc (Nat.le_refl _) _)), (keepR (W := W6.drew) hHeld.2.2.1 ((Below.refl _ _).alloc (Nat.le_refl _) _)), (keepR (W := W6.drew) hHeld.2.2.2.1 ((Below.refl _ _).alloc (Nat.le_refl _) _)), (keepR (W := W6.drew) hHeld.2.2.2.2.1 ((Below.refl _ _).alloc (Nat.le_refl _) _)), (keepR (W := W6.drew) hHeld.2.2.2.2.2.1 ((Below.refl _ _).alloc (Nat.le_refl _) _)), (keepR (W := W6.drew) hHeld.2.2.2.2.2.2 ((Below.refl _ _).alloc (Nat.le_refl _) _))⟩ (fun hHeld => ?_)
    clear hK K
    try simp only [Act.put, pu1, pu2, pu3, pu4, pu5, pu6]
    obtain ⟨W7, HW7, b7, ff7⟩ : ∃ X, Hid ((W6.alloc (.cells #[.int .i64 h.n, .string h.r] 28)).drew = X) ∧ Below W6.heap.size W6 X ∧ Hid (Oht X W6.heap.size X.heap.size (.slice (some ⟨W6.heap.size, 0, none⟩) 1 1) [h]) := ⟨_, rfl, (Below.drew ((Below.refl _ _).alloc (Nat.le_refl _) _)), ⟨lit1H W6 W6.heap.size h (Nat.le_refl _), Nat.le_refl _⟩⟩
    have HHW7 := HW7.out
    rw [HHW7] at hHeld ⊢
    clear HHW7
    have hlt7 : W6.heap.size < W7.heap.size := by have := ff7.out.1.2 _ rfl; exact this
    have z7 : W6.heap.size ≤ W7.heap.size := b7.size
    have B7 : Hid (Below w.heap.size w W7) := B6.out.trans (b7.mono B6.out.size)
    have r_x7 : Hid (W7.heap[W3.heap.size]? = some (.cells #[.slice ao_x L_x cap_x, .int .i64 st2.h.n, .string st2.h.r, .slice ao_xp st2.b.length cap_xp, .int .i64 st2.s] 37 (0, 0))) := rowKeep r_x6.out b7
    have o_xp7 : Hid (Own W7 (lo_xp) (hi_xp) 5 (.slice ao_xp st2.b.length cap_xp) (bs st2.b)) := Own.later o_xp6.out b7 (by omega)
    have c_x7_0 : W7.cell? ⟨W3.heap.size, 0, none⟩ = some (.slice ao_x L_x cap_x) := row_at r_x7.out 0
    have c_x7_1 : W7.cell? ⟨W3.heap.size, 1, none⟩ = some (.int .i64 st2.h.n) := row_at r_x7.out 1
    have c_x7_2 : W7.cell? ⟨W3.heap.size, 2, none⟩ = some (.string st2.h.r) := row_at r_x7.out 2
    have c_x7_3 : W7.cell? ⟨W3.heap.size, 3, none⟩ = some (.slice ao_xp st2.b.length cap_xp) := row_at r_x7.out 3
    have c_x7_4 : W7.cell? ⟨W3.heap.size, 4, none⟩ = some (.int .i64 st2.s) := row_at r_x7.out 4
    clear r_x6 c_x6_0 c_x6_1 c_x6_2 c_x6_3 c_x6_4 o_xp6
    have f_t7 : Hid (Sh W7 (.slice ao_t t.length cap_t) t) := Sh.later f_t6.out b7
    clear f_t6
    have D7 : Hid (Below W6.heap.size W6 W7) := D6.out.trans (b7.mono D6.out.size)
    have f_lt7 : Hid (Oht W7 W6.heap.size W7.heap.size (.slice (some ⟨W6.heap.size, 0, none⟩) 1 1) [h]) := ff7.out
    clear ff7
    refine wpAnyH_ready (rs := [3, 10]) (by kernel_rfl) (by simp) ?_
    refine AllReadyH.cons rfl (fun K hK => ?_) (AllReadyH.cons rfl (fun K hK => ?_) AllReadyH.nil)
    ·
     refine step_appn 2 (by omega) rfl (.tmp 68) (.tmp 69) 35 (by rfl) 28 iH (.agg #[.int .i64 0, .string ⟨#[]⟩]) 24 Tryz.underlying35 hiH hzHa hzHb hzHc rfl (W6.heap.size) _ 1 (hds [h]) (by rfl) (On.mono f_lt7.out.1 (Nat.le_refl _) f_lt7.out.2) _ (by rfl) t.length (hds t) f_t7.out (hds_one t) (by unfold maxLen; omega) (by omega) (by omega) ?_
     intro v_q W8 o_q8 _ g8
     have g8 : W7.grownBy W8 (some (W6.heap.size)) := g8
     refine hK.out _ _ ⟨(cellGro hHeld.1 g8 (by show some (W6.heap.size) ≠ some (W1.heap.size + 1); intro h9; injection h9 with h9; omega)), (cellGro hHeld.2.1 g8 (by show some (W6.heap.size) ≠ some (W1.heap.size + 1); intro h9; injection h9 with h9; omega)), (cellGro hHeld.2.2.1 g8 (by show some (W6.heap.size) ≠ some (W3.heap.size); intro h9; injection h9 with h9; omega)), (cellGro hHeld.2.2.2.1 g8 (by show some (W6.heap.size) ≠ some (W3.heap.size); intro h9; injection h9 with h9; omega)), (cellGro hHeld.2.2.2.2.1 g8 (by show some (W6.heap.size) ≠ some (W3.heap.size); intro h9; injection h9 with h9; omega)), (cellGro hHeld.2.2.2.2.2.1 g8 (by show some (W6.heap.size) ≠ some (W3.heap.size); intro h9; injection h9 with h9; omega)), (cellGro hHeld.2.2.2.2.2.2 g8 (by show some (W6.heap.size) ≠ some (W3.heap.size); intro h9; injection h9 with h9; omega))⟩ (fun hHeld => ?_)
     clear hK K
     try simp only [Act.put, pu1, pu2, pu3, pu4, pu5, pu6]
     have z8 : W7.heap.size ≤ W8.heap.size := g8.size
     have B8 : Hid (Below w.heap.size w W8) := belowGro B7.out g8 B7.out.size (fun k9 h9 => by injection h9 with h9; have := B7.out.size; omega)
     have D8 : Hid (Below W6.heap.size W6 W8) := belowGro D7.out g8 D7.out.size (fun k9 h9 => by injection h9 with h9; omega)
     have r_x8 : Hid (W8.heap[W3.heap.size]? = some (.cells #[.slice ao_x L_x cap_x, .int .i64 st2.h.n, .string st2.h.r, .slice ao_xp st2.b.length cap_xp, .int .i64 st2.s] 37 (0, 0))) := rowGro r_x7.out g8 (fun h9 => by injection h9 with h9; omega)
     have o_xp8 : Hid (Own W8 (lo_xp) (hi_xp) 5 (.slice ao_xp st2.b.length cap_xp) (bs st2.b)) := Own.gro o_xp7.out g8 (fun k9 h9 e9 => by injection e9 with e9; have h8 := (o_xp7.out.1.lt k9 h9).1; have h7 := o_xp7.out.2 k9 h9; omega)
     have c_x8_0 : W8.cell? ⟨W3.heap.size, 0, none⟩ = some (.slice ao_x L_x cap_x) := row_at r_x8.out 0
     have c_x8_1 : W8.cell? ⟨W3.heap.size, 1, none⟩ = some (.int .i64 st2.h.n) := row_at r_x8.out 1
     have c_x8_2 : W8.cell? ⟨W3.heap.size, 2, none⟩ = some (.string st2.h.r) := row_at r_x8.out 2
     have c_x8_3 : W8.cell? ⟨W3.heap.size, 3, none⟩ = some (.slice ao_xp st2.b.length cap_xp) := row_at r_x8.out 3
     clear r_x7 c_x7_0 c_x7_1 c_x7_2 c_x7_3 c_x7_4 o_xp7
     have f_q8 : Hid (Sh W8 v_q (h :: t)) := by
      have h9 := On.sn o_q8
      rw [← hds_app [h] t, Nat.add_comm] at h9
      exact h9
     clear f_t7 f_lt7 o_q8 g8
     refine wpAnyH_ready (rs := [6, 10]) (by kernel_rfl) (by simp) ?_
     refine AllReadyH.cons rfl (fun K hK => ?_) (AllReadyH.cons rfl (fun K hK => ?_) AllReadyH.nil)
     ·
      go_simp
      refine (q3 W8 _ _ B8.out f_q8.out o_xp8.out.sl).mono ?_
      rintro e W9 ⟨v_g, v_gp, rfl, o_g9, o_gp9, b9⟩
      refine hK.out _ _ ⟨(keepR (W := W8) hHeld.1 b9), (keepR (W := W8) hHeld.2.1 b9), (keepR (W := W8) hHeld.2.2.1 b9), (keepR (W := W8) hHeld.2.2.2.1 b9), (keepR (W := W8) hHeld.2.2.2.2.1 b9), (keepR (W := W8) hHeld.2.2.2.2.2.1 b9), (keepR (W := W8) hHeld.2.2.2.2.2.2 b9)⟩ (fun hHeld => ?_)
      clear hK K
      try simp only [Act.put, pu1, pu2, pu3, pu4, pu5, pu6]
      obtain ⟨lo_g, hi_g, lo_gp, hi_gp, d1_g, d2_g, d3_g, d4_g, d5_g, d6_g, d7_g, oo_g, oo_gp⟩ := Sr.pairN o_g9 o_gp9 b9.size
      clear o_g9 o_gp9
      obtain ⟨ao_g, L_g, cap_g, rfl, _, _⟩ := oo_g.form
      obtain ⟨ao_gp, L_gp, cap_gp, rfl, _, _⟩ := oo_gp.form
      have o_g9 : Hid (Own W9 lo_g hi_g 9 (.slice ao_g L_g cap_g) (ss U.l)) := oo_g
      have o_gp9 : Hid (Own W9 lo_gp hi_gp 5 (.slice ao_gp L_gp cap_gp) (bs U.b)) := oo_gp
      clear oo_g oo_gp
      have z9 : W8.heap.size ≤ W9.heap.size := b9.size
      have B9 : Hid (Below w.heap.size w W9) := B8.out.trans (b9.mono B8.out.size)
      have o_xp9 : Hid (Own W9 (lo_xp) (hi_xp) 5 (.slice ao_xp st2.b.length cap_xp) (bs st2.b)) := Own.later o_xp8.out b9 (by omega)
      clear r_x8 c_x8_0 c_x8_1 c_x8_2 c_x8_3 o_xp8
      have f_q9 : Hid (Sh W9 v_q (h :: t)) := Sh.later f_q8.out b9
      clear f_q8
      have D9 : Hid (Below W6.heap.size W6 W9) := D8.out.trans (b9.mono D8.out.size)
      (refine wpAnyH_take (i := 7) (v := ?v7x75) rfl (by kernel_rfl) (by kernel_rfl) (by kernel_rfl) (fun _ _ _ h => h) (Or.inl ⟨by rfl, ?hy7x75⟩) (by assumption) ?rest7x75; case hy7x75 => (intro w hSw; (try dsimp only at hSw); go_split_ands; go_simp; (try with_reducible rfl)))
      try simp only [Act.put, pu1, pu2, pu3, pu4, pu5, pu6]
      (refine wpAnyH_take (i := 8) (v := ?v8x76) rfl (by kernel_rfl) (by kernel_rfl) (by kernel_rfl) (fun _ _ _ h => h) (Or.inl ⟨by rfl, ?hy8x76⟩) (by assumption) ?rest8x76; case hy8x76 => (intro w hSw; (try dsimp only at hSw); go_split_ands; go_simp; (try with_reducible rfl)))
      try simp only [Act.put, pu1, pu2, pu3, pu4, pu5, pu6]
      (refine wpAnyH_take (i := 9) (v := ?v9x77) rfl (by kernel_rfl) (by kernel_rfl) (by kernel_rfl) (fun _ _ _ h => h) (Or.inl ⟨by rfl, ?hy9x77⟩) (by assumption) ?rest9x77; case hy9x77 => (intro w hSw; (try dsimp only at hSw); go_split_ands; go_simp; (try with_reducible rfl)))
      try simp only [Act.put, pu1, pu2, pu3, pu4, pu5, pu6]
      refine wpAnyH_ready (rs := [10]) (by kernel_rfl) (by simp) ?_
      refine AllReadyH.cons rfl (fun K hK => ?_) AllReadyH.nil
      go_simp
      refine hK.out _ _ ⟨(keepR (W := W9) hHeld.1 ((Below.refl _ _).alloc (Nat.le_refl _) _)), (keepR (W := W9) hHeld.2.1 ((Below.refl _ _).alloc (Nat.le_refl _) _)), (keepR (W := W9) hHeld.2.2.1 ((Below.refl _ _).alloc (Nat.le_refl _) _)), (keepR (W := W9) hHeld.2.2.2.1 ((Below.refl _ _).alloc (Nat.le_refl _) _)), (keepR (W := W9) hHeld.2.2.2.2.1 ((Below.refl _ _).alloc (Nat.le_refl _) _)), (keepR (W := W9) hHeld.2.2.2.2.2.1 ((Below.refl _ _).alloc (Nat.le_refl _) _)), (keepR (W := W9) hHeld.2.2.2.2.2.2 ((Below.refl _ _).alloc (Nat.le_refl _) _))⟩ (fun hHeld => ?_)
      clear hK K
      try simp only [Act.put, pu1, pu2, pu3, pu4, pu5, pu6]
      obtain ⟨W10, HW10, b10, y10, r_up10⟩ : ∃ X, Hid ((W9.alloc (.cells #[.slice none 0 0, .int .i64 0, .string ⟨#[]⟩, .slice none 0 0, .int .i64 0] 37)) = X) ∧ Below W9.heap.size W9 X ∧ W9.heap.size + 1 ≤ X.heap.size ∧ Hid (X.heap[W9.heap.size]? = some (.cells #[.slice none 0 0, .int .i64 0, .string ⟨#[]⟩, .slice none 0 0, .int .i64 0] 37 (0, 0))) := ⟨_, rfl, ((Below.refl _ _).alloc (Nat.le_refl _) _), (by show _ ≤ (W9.heap.push _).size; simp), heap_alloc_new W9 _⟩
      have HHW10 := HW10.out
      rw [HHW10] at hHeld ⊢
      clear HHW10
      have z10 : W9.heap.size ≤ W10.heap.size := b10.size
      have B10 : Hid (Below w.heap.size w W10) := B9.out.trans (b10.mono B9.out.size)
      have o_g10 : Hid (Own W10 (lo_g) (hi_g) 9 (.slice ao_g L_g cap_g) (ss U.l)) := Own.later o_g9.out b10 (by omega)
      have o_gp10 : Hid (Own W10 (lo_gp) (hi_gp) 5 (.slice ao_gp L_gp cap_gp) (bs U.b)) := Own.later o_gp9.out b10 (by omega)
      clear o_xp9 o_g9 o_gp9
      clear f_q9
      have D10 : Hid (Below W6.heap.size W6 W10) := D9.out.trans (b10.mono D9.out.size)
      refine wpAnyH_ready (rs := [11]) (by kernel_rfl) (by simp) ?_
      refine AllReadyH.cons rfl (fun K hK => ?_) AllReadyH.nil
      rw [if_pos (by rfl)]
      refine wp_store_row 37 _ _ rfl (W9.heap.size) (sc (.slice ao_g L_g cap_g) U.h (.slice ao_gp L_gp cap_gp) U.s) rfl rfl 37 _ r_up10.out (sizeS _ _ _ _) rfl (oneS _ _ rfl rfl) ?_
      refine hK.out _ _ ⟨(cell_row (by show W1.heap.size + 1 ≠ W9.heap.size; omega) hHeld.1), (cell_row (by show W1.heap.size + 1 ≠ W9.heap.size; omega) hHeld.2.1), (cell_row (by show W3.heap.size ≠ W9.heap.size; omega) hHeld.2.2.1), (cell_row (by show W3.heap.size ≠ W9.heap.size; omega) hHeld.2.2.2.1), (cell_row (by show W3.heap.size ≠ W9.heap.size; omega) hHeld.2.2.2.2.1), (cell_row (by show W3.heap.size ≠ W9.heap.size; omega) hHeld.2.2.2.2.2.1), (cell_row (by show W3.heap.size ≠ W9.heap.size; omega) hHeld.2.2.2.2.2.2)⟩ (fun hHeld => ?_)
      clear hK K
      try simp only [Act.put, pu1, pu2, pu3, pu4, pu5, pu6]
      have D11a : Below W6.heap.size W6 (W10.setRow (W9.heap.size) (sc (.slice ao_g L_g cap_g) U.h (.slice ao_gp L_gp cap_gp) U.s)) := below_setRow D10.out (by omega) _
      obtain ⟨W11, HW11⟩ : ∃ X, Hid (W10.setRow (W9.heap.size) (sc (.slice ao_g L_g cap_g) U.h (.slice ao_gp L_gp cap_gp) U.s) = X) := ⟨_, rfl⟩
      have z11 : W10.heap.size ≤ W11.heap.size := by rw [← HW11.out]; simp
      have B11 : Hid (Below w.heap.size w W11) := by show Below _ _ _; rw [← HW11.out]; exact below_setRow B10.out (by have := B10.out.size; omega) _
      have o_g11 : Hid (Own W11 (lo_g) (hi_g) 9 (.slice ao_g L_g cap_g) (ss U.l)) := by show Own _ _ _ _ _ _; rw [← HW11.out]; exact Own.setRow o_g10.out _ (by omega)
      have o_gp11 : Hid (Own W11 (lo_gp) (hi_gp) 5 (.slice ao_gp L_gp cap_gp) (bs U.b)) := by show Own _ _ _ _ _ _; rw [← HW11.out]; exact Own.setRow o_gp10.out _ (by omega)
      have r_up11 : Hid (W11.heap[W9.heap.size]? = some (.cells #[.slice ao_g L_g cap_g, .int .i64 U.h.n, .string U.h.r, .slice ao_gp L_gp cap_gp, .int .i64 U.s] 37 (0, 0))) := by show _ = _; rw [← HW11.out]; exact setRow_heap _ _ _ _ _ (0, 0) r_up10.out
      rw [HW11.out]
      clear r_up10 o_g10 o_gp10
      rw [HW11.out] at hHeld
      have D11 : Hid (Below W6.heap.size W6 W11) := by show Below _ _ _; rw [← HW11.out]; exact D11a
      (refine wpAnyH_take (i := 12) (v := ?v12x78) rfl (by kernel_rfl) (by kernel_rfl) (by kernel_rfl) (fun _ _ _ h => h) (Or.inl ⟨by rfl, ?hy12x78⟩) (by assumption) ?rest12x78; case hy12x78 => (intro w hSw; (try dsimp only at hSw); go_split_ands; go_simp; (try with_reducible rfl)))
      try simp only [Act.put, pu1, pu2, pu3, pu4, pu5, pu6]
      refine wpAnyH_done (by kernel_rfl) ?_ _
      clear hHeld
      go_wp2_with fail
      go_meet
      exact ⟨W9.heap.size, rfl, rfl, by omega, (Array.getElem?_eq_some_iff.1 r_up11.out).1, D11.out, lo_g, hi_g, ao_g, L_g, cap_g, lo_gp, hi_gp, ao_gp, L_gp, cap_gp, by omega, by omega, by omega, by omega, by omega, by omega, by omega, o_g11.out, o_gp11.out, by omega, by omega, r_up11.out⟩
     ·
      go_simp
      refine hK.out _ _ ⟨(keepR (W := W8) hHeld.1 ((Below.refl _ _).alloc (Nat.le_refl _) _)), (keepR (W := W8) hHeld.2.1 ((Below.refl _ _).alloc (Nat.le_refl _) _)), (keepR (W := W8) hHeld.2.2.1 ((Below.refl _ _).alloc (Nat.le_refl _) _)), (keepR (W := W8) hHeld.2.2.2.1 ((Below.refl _ _).alloc (Nat.le_refl _) _)), (keepR (W := W8) hHeld.2.2.2.2.1 ((Below.refl _ _).alloc (Nat.le_refl _) _)), (keepR (W := W8) hHeld.2.2.2.2.2.1 ((Below.refl _ _).alloc (Nat.le_refl _) _)), (keepR (W := W8) hHeld.2.2.2.2.2.2 ((Below.refl _ _).alloc (Nat.le_refl _) _))⟩ (fun hHeld => ?_)
      clear hK K
      try simp only [Act.put, pu1, pu2, pu3, pu4, pu5, pu6]
      obtain ⟨W9, HW9, b9, y9, r_up9⟩ : ∃ X, Hid ((W8.alloc (.cells #[.slice none 0 0, .int .i64 0, .string ⟨#[]⟩, .slice none 0 0, .int .i64 0] 37)) = X) ∧ Below W8.heap.size W8 X ∧ W8.heap.size + 1 ≤ X.heap.size ∧ Hid (X.heap[W8.heap.size]? = some (.cells #[.slice none 0 0, .int .i64 0, .string ⟨#[]⟩, .slice none 0 0, .int .i64 0] 37 (0, 0))) := ⟨_, rfl, ((Below.refl _ _).alloc (Nat.le_refl _) _), (by show _ ≤ (W8.heap.push _).size; simp), heap_alloc_new W8 _⟩
      have HHW9 := HW9.out
      rw [HHW9] at hHeld ⊢
      clear HHW9
      have z9 : W8.heap.size ≤ W9.heap.size := b9.size
      have B9 : Hid (Below w.heap.size w W9) := B8.out.trans (b9.mono B8.out.size)
      have o_xp9 : Hid (Own W9 (lo_xp) (hi_xp) 5 (.slice ao_xp st2.b.length cap_xp) (bs st2.b)) := Own.later o_xp8.out b9 (by omega)
      clear r_x8 c_x8_0 c_x8_1 c_x8_2 c_x8_3 o_xp8
      have f_q9 : Hid (Sh W9 v_q (h :: t)) := Sh.later f_q8.out b9
      clear f_q8
      have D9 : Hid (Below W6.heap.size W6 W9) := D8.out.trans (b9.mono D8.out.size)
      refine wpAnyH_ready (rs := [6]) (by kernel_rfl) (by simp) ?_
      refine AllReadyH.cons rfl (fun K hK => ?_) AllReadyH.nil
      go_simp
      refine (q3 W9 _ _ B9.out f_q9.out o_xp9.out.sl).mono ?_
      rintro e W10 ⟨v_g, v_gp, rfl, o_g10, o_gp10, b10⟩
      refine hK.out _ _ ⟨(keepR (W := W9) hHeld.1 b10), (keepR (W := W9) hHeld.2.1 b10), (keepR (W := W9) hHeld.2.2.1 b10), (keepR (W := W9) hHeld.2.2.2.1 b10), (keepR (W := W9) hHeld.2.2.2.2.1 b10), (keepR (W := W9) hHeld.2.2.2.2.2.1 b10), (keepR (W := W9) hHeld.2.2.2.2.2.2 b10)⟩ (fun hHeld => ?_)
      clear hK K
      try simp only [Act.put, pu1, pu2, pu3, pu4, pu5, pu6]
      obtain ⟨lo_g, hi_g, lo_gp, hi_gp, d1_g, d2_g, d3_g, d4_g, d5_g, d6_g, d7_g, oo_g, oo_gp⟩ := Sr.pairN o_g10 o_gp10 b10.size
      clear o_g10 o_gp10
      obtain ⟨ao_g, L_g, cap_g, rfl, _, _⟩ := oo_g.form
      obtain ⟨ao_gp, L_gp, cap_gp, rfl, _, _⟩ := oo_gp.form
      have o_g10 : Hid (Own W10 lo_g hi_g 9 (.slice ao_g L_g cap_g) (ss U.l)) := oo_g
      have o_gp10 : Hid (Own W10 lo_gp hi_gp 5 (.slice ao_gp L_gp cap_gp) (bs U.b)) := oo_gp
      clear oo_g oo_gp
      have z10 : W9.heap.size ≤ W10.heap.size := b10.size
      have B10 : Hid (Below w.heap.size w W10) := B9.out.trans (b10.mono B9.out.size)
      have r_up10 : Hid (W10.heap[W8.heap.size]? = some (.cells #[.slice none 0 0, .int .i64 0, .string ⟨#[]⟩, .slice none 0 0, .int .i64 0] 37 (0, 0))) := rowKeep r_up9.out b10
      clear r_up9 o_xp9
      clear f_q9
      have D10 : Hid (Below W6.heap.size W6 W10) := D9.out.trans (b10.mono D9.out.size)
      (refine wpAnyH_take (i := 7) (v := ?v7x79) rfl (by kernel_rfl) (by kernel_rfl) (by kernel_rfl) (fun _ _ _ h => h) (Or.inl ⟨by rfl, ?hy7x79⟩) (by assumption) ?rest7x79; case hy7x79 => (intro w hSw; (try dsimp only at hSw); go_split_ands; go_simp; (try with_reducible rfl)))
      try simp only [Act.put, pu1, pu2, pu3, pu4, pu5, pu6]
      (refine wpAnyH_take (i := 8) (v := ?v8x80) rfl (by kernel_rfl) (by kernel_rfl) (by kernel_rfl) (fun _ _ _ h => h) (Or.inl ⟨by rfl, ?hy8x80⟩) (by assumption) ?rest8x80; case hy8x80 => (intro w hSw; (try dsimp only at hSw); go_split_ands; go_simp; (try with_reducible rfl)))
      try simp only [Act.put, pu1, pu2, pu3, pu4, pu5, pu6]
      (refine wpAnyH_take (i := 9) (v := ?v9x81) rfl (by kernel_rfl) (by kernel_rfl) (by kernel_rfl) (fun _ _ _ h => h) (Or.inl ⟨by rfl, ?hy9x81⟩) (by assumption) ?rest9x81; case hy9x81 => (intro w hSw; (try dsimp only at hSw); go_split_ands; go_simp; (try with_reducible rfl)))
      try simp only [Act.put, pu1, pu2, pu3, pu4, pu5, pu6]
      refine wpAnyH_ready (rs := [11]) (by kernel_rfl) (by simp) ?_
      refine AllReadyH.cons rfl (fun K hK => ?_) AllReadyH.nil
      rw [if_pos (by rfl)]
      refine wp_store_row 37 _ _ rfl (W8.heap.size) (sc (.slice ao_g L_g cap_g) U.h (.slice ao_gp L_gp cap_gp) U.s) rfl rfl 37 _ r_up10.out (sizeS _ _ _ _) rfl (oneS _ _ rfl rfl) ?_
      refine hK.out _ _ ⟨(cell_row (by show W1.heap.size + 1 ≠ W8.heap.size; omega) hHeld.1), (cell_row (by show W1.heap.size + 1 ≠ W8.heap.size; omega) hHeld.2.1), (cell_row (by show W3.heap.size ≠ W8.heap.size; omega) hHeld.2.2.1), (cell_row (by show W3.heap.size ≠ W8.heap.size; omega) hHeld.2.2.2.1), (cell_row (by show W3.heap.size ≠ W8.heap.size; omega) hHeld.2.2.2.2.1), (cell_row (by show W3.heap.size ≠ W8.heap.size; omega) hHeld.2.2.2.2.2.1), (cell_row (by show W3.heap.size ≠ W8.heap.size; omega) hHeld.2.2.2.2.2.2)⟩ (fun hHeld => ?_)
      clear hK K
      try simp only [Act.put, pu1, pu2, pu3, pu4, pu5, pu6]
      have D11a : Below W6.heap.size W6 (W10.setRow (W8.heap.size) (sc (.slice ao_g L_g cap_g) U.h (.slice ao_gp L_gp cap_gp) U.s)) := below_setRow D10.out (by omega) _
      obtain ⟨W11, HW11⟩ : ∃ X, Hid (W10.setRow (W8.heap.size) (sc (.slice ao_g L_g cap_g) U.h (.slice ao_gp L_gp cap_gp) U.s) = X) := ⟨_, rfl⟩
      have z11 : W10.heap.size ≤ W11.heap.size := by rw [← HW11.out]; simp
      have B11 : Hid (Below w.heap.size w W11) := by show Below _ _ _; rw [← HW11.out]; exact below_setRow B10.out (by have := B10.out.size; omega) _
      have o_g11 : Hid (Own W11 (lo_g) (hi_g) 9 (.slice ao_g L_g cap_g) (ss U.l)) := by show Own _ _ _ _ _ _; rw [← HW11.out]; exact Own.setRow o_g10.out _ (by omega)
      have o_gp11 : Hid (Own W11 (lo_gp) (hi_gp) 5 (.slice ao_gp L_gp cap_gp) (bs U.b)) := by show Own _ _ _ _ _ _; rw [← HW11.out]; exact Own.setRow o_gp10.out _ (by omega)
      have r_up11 : Hid (W11.heap[W8.heap.size]? = some (.cells #[.slice ao_g L_g cap_g, .int .i64 U.h.n, .string U.h.r, .slice ao_gp L_gp cap_gp, .int .i64 U.s] 37 (0, 0))) := by show _ = _; rw [← HW11.out]; exact setRow_heap _ _ _ _ _ (0, 0) r_up10.out
      rw [HW11.out]
      clear r_up10 o_g10 o_gp10
      rw [HW11.out] at hHeld
      have D11 : Hid (Below W6.heap.size W6 W11) := by show Below _ _ _; rw [← HW11.out]; exact D11a
      (refine wpAnyH_take (i := 12) (v := ?v12x82) rfl (by kernel_rfl) (by kernel_rfl) (by kernel_rfl) (fun _ _ _ h => h) (Or.inl ⟨by rfl, ?hy12x82⟩) (by assumption) ?rest12x82; case hy12x82 => (intro w hSw; (try dsimp only at hSw); go_split_ands; go_simp; (try with_reducible rfl)))
      try simp only [Act.put, pu1, pu2, pu3, pu4, pu5, pu6]
      refine wpAnyH_done (by kernel_rfl) ?_ _
      clear hHeld
      go_wp2_with fail
      go_meet
      exact ⟨W8.heap.size, rfl, rfl, by omega, (Array.getElem?_eq_some_iff.1 r_up11.out).1, D11.out, lo_g, hi_g, ao_g, L_g, cap_g, lo_gp, hi_gp, ao_gp, L_gp, cap_gp, by omega, by omega, by omega, by omega, by omega, by omega, by omega, o_g11.out, o_gp11.out, by omega, by omega, r_up11.out⟩
    ·
     go_simp
     refine hK.out _ _ ⟨(keepR (W := W7) hHeld.1 ((Below.refl _ _).alloc (Nat.le_refl _) _)), (keepR (W := W7) hHeld.2.1 ((Below.refl _ _).alloc (Nat.le_refl _) _)), (keepR (W := W7) hHeld.2.2.1 ((Below.refl _ _).alloc (Nat.le_refl _) _)), (keepR (W := W7) hHeld.2.2.2.1 ((Below.refl _ _).alloc (Nat.le_refl _) _)), (keepR (W := W7) hHeld.2.2.2.2.1 ((Below.refl _ _).alloc (Nat.le_refl _) _)), (keepR (W := W7) hHeld.2.2.2.2.2.1 ((Below.refl _ _).alloc (Nat.le_refl _) _)), (keepR (W := W7) hHeld.2.2.2.2.2.2 ((Below.refl _ _).alloc (Nat.le_refl _) _))⟩ (fun hHeld => ?_)
     clear hK K
     try simp only [Act.put, pu1, pu2, pu3, pu4, pu5, pu6]
     obtain ⟨W8, HW8, b8, y8, r_up8⟩ : ∃ X, Hid ((W7.alloc (.cells #[.slice none 0 0, .int .i64 0, .string ⟨#[]⟩, .slice none 0 0, .int .i64 0] 37)) = X) ∧ Below W7.heap.size W7 X ∧ W7.heap.size + 1 ≤ X.heap.size ∧ Hid (X.heap[W7.heap.size]? = some (.cells #[.slice none 0 0, .int .i64 0, .string ⟨#[]⟩, .slice none 0 0, .int .i64 0] 37 (0, 0))) := ⟨_, rfl, ((Below.refl _ _).alloc (Nat.le_refl _) _), (by show _ ≤ (W7.heap.push _).size; simp), heap_alloc_new W7 _⟩
     have HHW8 := HW8.out
     rw [HHW8] at hHeld ⊢
     clear HHW8
     have z8 : W7.heap.size ≤ W8.heap.size := b8.size
     have B8 : Hid (Below w.heap.size w W8) := B7.out.trans (b8.mono B7.out.size)
     have r_x8 : Hid (W8.heap[W3.heap.size]? = some (.cells #[.slice ao_x L_x cap_x, .int .i64 st2.h.n, .string st2.h.r, .slice ao_xp st2.b.length cap_xp, .int .i64 st2.s] 37 (0, 0))) := rowKeep r_x7.out b8
     have o_xp8 : Hid (Own W8 (lo_xp) (hi_xp) 5 (.slice ao_xp st2.b.length cap_xp) (bs st2.b)) := Own.later o_xp7.out b8 (by omega)
     have c_x8_0 : W8.cell? ⟨W3.heap.size, 0, none⟩ = some (.slice ao_x L_x cap_x) := row_at r_x8.out 0
     have c_x8_1 : W8.cell? ⟨W3.heap.size, 1, none⟩ = some (.int .i64 st2.h.n) := row_at r_x8.out 1
     have c_x8_2 : W8.cell? ⟨W3.heap.size, 2, none⟩ = some (.string st2.h.r) := row_at r_x8.out 2
     have c_x8_3 : W8.cell? ⟨W3.heap.size, 3, none⟩ = some (.slice ao_xp st2.b.length cap_xp) := row_at r_x8.out 3
     have c_up8_0 : W8.cell? ⟨W7.heap.size, 0, none⟩ = some (.slice none 0 0) := row_at r_up8.out 0
     clear r_x7 c_x7_0 c_x7_1 c_x7_2 c_x7_3 c_x7_4 o_xp7
     have f_t8 : Hid (Sh W8 (.slice ao_t t.length cap_t) t) := Sh.later f_t7.out b8
     have f_lt8 : Hid (Oht W8 W6.heap.size W7.heap.size (.slice (some ⟨W6.heap.size, 0, none⟩) 1 1) [h]) := Oht.later f_lt7.out b8
     clear f_t7 f_lt7
     have D8 : Hid (Below W6.heap.size W6 W8) := D7.out.trans (b8.mono D7.out.size)
     refine wpAnyH_ready (rs := [3]) (by kernel_rfl) (by simp) ?_
     refine AllReadyH.cons rfl (fun K hK => ?_) AllReadyH.nil
     refine step_appn 2 (by omega) rfl (.tmp 68) (.tmp 69) 35 (by rfl) 28 iH (.agg #[.int .i64 0, .string ⟨#[]⟩]) 24 Tryz.underlying35 hiH hzHa hzHb hzHc rfl (W6.heap.size) _ 1 (hds [h]) (by rfl) (On.mono f_lt8.out.1 (Nat.le_refl _) f_lt8.out.2) _ (by rfl) t.length (hds t) f_t8.out (hds_one t) (by unfold maxLen; omega) (by omega) (by omega) ?_
     intro v_q W9 o_q9 _ g9
     have g9 : W8.grownBy W9 (some (W6.heap.size)) := g9
     refine hK.out _ _ ⟨(cellGro hHeld.1 g9 (by show some (W6.heap.size) ≠ some (W1.heap.size + 1); intro h9; injection h9 with h9; omega)), (cellGro hHeld.2.1 g9 (by show some (W6.heap.size) ≠ some (W1.heap.size + 1); intro h9; injection h9 with h9; omega)), (cellGro hHeld.2.2.1 g9 (by show some (W6.heap.size) ≠ some (W3.heap.size); intro h9; injection h9 with h9; omega)), (cellGro hHeld.2.2.2.1 g9 (by show some (W6.heap.size) ≠ some (W3.heap.size); intro h9; injection h9 with h9; omega)), (cellGro hHeld.2.2.2.2.1 g9 (by show some (W6.heap.size) ≠ some (W3.heap.size); intro h9; injection h9 with h9; omega)), (cellGro hHeld.2.2.2.2.2.1 g9 (by show some (W6.heap.size) ≠ some (W3.heap.size); intro h9; injection h9 with h9; omega)), (cellGro hHeld.2.2.2.2.2.2 g9 (by show some (W6.heap.size) ≠ some (W3.heap.size); intro h9; injection h9 with h9; omega))⟩ (fun hHeld => ?_)
     clear hK K
     try simp only [Act.put, pu1, pu2, pu3, pu4, pu5, pu6]
     have z9 : W8.heap.size ≤ W9.heap.size := g9.size
     have B9 : Hid (Below w.heap.size w W9) := belowGro B8.out g9 B8.out.size (fun k9 h9 => by injection h9 with h9; have := B8.out.size; omega)
     have D9 : Hid (Below W6.heap.size W6 W9) := belowGro D8.out g9 D8.out.size (fun k9 h9 => by injection h9 with h9; omega)
     have r_up9 : Hid (W9.heap[W7.heap.size]? = some (.cells #[.slice none 0 0, .int .i64 0, .string ⟨#[]⟩, .slice none 0 0, .int .i64 0] 37 (0, 0))) := rowGro r_up8.out g9 (fun h9 => by injection h9 with h9; omega)
     have o_xp9 : Hid (Own W9 (lo_xp) (hi_xp) 5 (.slice ao_xp st2.b.length cap_xp) (bs st2.b)) := Own.gro o_xp8.out g9 (fun k9 h9 e9 => by injection e9 with e9; have h8 := (o_xp8.out.1.lt k9 h9).1; have h7 := o_xp8.out.2 k9 h9; omega)
     clear r_x8 c_x8_0 c_x8_1 c_x8_2 c_x8_3 r_up8 c_up8_0 o_xp8
     have f_q9 : Hid (Sh W9 v_q (h :: t)) := by
      have h9 := On.sn o_q9
      rw [← hds_app [h] t, Nat.add_comm] at h9
      exact h9
     clear f_t8 f_lt8 o_q9 g9
     refine wpAnyH_ready (rs := [6]) (by kernel_rfl) (by simp) ?_
     refine AllReadyH.cons rfl (fun K hK => ?_) AllReadyH.nil
     go_simp
     refine (q3 W9 _ _ B9.out f_q9.out o_xp9.out.sl).mono ?_
     rintro e W10 ⟨v_g, v_gp, rfl, o_g10, o_gp10, b10⟩
     refine hK.out _ _ ⟨(keepR (W := W9) hHeld.1 b10), (keepR (W := W9) hHeld.2.1 b10), (keepR (W := W9) hHeld.2.2.1 b10), (keepR (W := W9) hHeld.2.2.2.1 b10), (keepR (W := W9) hHeld.2.2.2.2.1 b10), (keepR (W := W9) hHeld.2.2.2.2.2.1 b10), (keepR (W := W9) hHeld.2.2.2.2.2.2 b10)⟩ (fun hHeld => ?_)
     clear hK K
     try simp only [Act.put, pu1, pu2, pu3, pu4, pu5, pu6]
     obtain ⟨lo_g, hi_g, lo_gp, hi_gp, d1_g, d2_g, d3_g, d4_g, d5_g, d6_g, d7_g, oo_g, oo_gp⟩ := Sr.pairN o_g10 o_gp10 b10.size
     clear o_g10 o_gp10
     obtain ⟨ao_g, L_g, cap_g, rfl, _, _⟩ := oo_g.form
     obtain ⟨ao_gp, L_gp, cap_gp, rfl, _, _⟩ := oo_gp.form
     have o_g10 : Hid (Own W10 lo_g hi_g 9 (.slice ao_g L_g cap_g) (ss U.l)) := oo_g
     have o_gp10 : Hid (Own W10 lo_gp hi_gp 5 (.slice ao_gp L_gp cap_gp) (bs U.b)) := oo_gp
     clear oo_g oo_gp
     have z10 : W9.heap.size ≤ W10.heap.size := b10.size
     have B10 : Hid (Below w.heap.size w W10) := B9.out.trans (b10.mono B9.out.size)
     have r_up10 : Hid (W10.heap[W7.heap.size]? = some (.cells #[.slice none 0 0, .int .i64 0, .string ⟨#[]⟩, .slice none 0 0, .int .i64 0] 37 (0, 0))) := rowKeep r_up9.out b10
     clear r_up9 o_xp9
     clear f_q9
     have D10 : Hid (Below W6.heap.size W6 W10) := D9.out.trans (b10.mono D9.out.size)
     (refine wpAnyH_take (i := 7) (v := ?v7x83) rfl (by kernel_rfl) (by kernel_rfl) (by kernel_rfl) (fun _ _ _ h => h) (Or.inl ⟨by rfl, ?hy7x83⟩) (by assumption) ?rest7x83; case hy7x83 => (intro w hSw; (try dsimp only at hSw); go_split_ands; go_simp; (try with_reducible rfl)))
     try simp only [Act.put, pu1, pu2, pu3, pu4, pu5, pu6]
     (refine wpAnyH_take (i := 8) (v := ?v8x84) rfl (by kernel_rfl) (by kernel_rfl) (by kernel_rfl) (fun _ _ _ h => h) (Or.inl ⟨by rfl, ?hy8x84⟩) (by assumption) ?rest8x84; case hy8x84 => (intro w hSw; (try dsimp only at hSw); go_split_ands; go_simp; (try with_reducible rfl)))
     try simp only [Act.put, pu1, pu2, pu3, pu4, pu5, pu6]
     (refine wpAnyH_take (i := 9) (v := ?v9x85) rfl (by kernel_rfl) (by kernel_rfl) (by kernel_rfl) (fun _ _ _ h => h) (Or.inl ⟨by rfl, ?hy9x85⟩) (by assumption) ?rest9x85; case hy9x85 => (intro w hSw; (try dsimp only at hSw); go_split_ands; go_simp; (try with_reducible rfl)))
     try simp only [Act.put, pu1, pu2, pu3, pu4, pu5, pu6]
     refine wpAnyH_ready (rs := [11]) (by kernel_rfl) (by simp) ?_
     refine AllReadyH.cons rfl (fun K hK => ?_) AllReadyH.nil
     rw [if_pos (by rfl)]
     refine wp_store_row 37 _ _ rfl (W7.heap.size) (sc (.slice ao_g L_g cap_g) U.h (.slice ao_gp L_gp cap_gp) U.s) rfl rfl 37 _ r_up10.out (sizeS _ _ _ _) rfl (oneS _ _ rfl rfl) ?_
     refine hK.out _ _ ⟨(cell_row (by show W1.heap.size + 1 ≠ W7.heap.size; omega) hHeld.1), (cell_row (by show W1.heap.size + 1 ≠ W7.heap.size; omega) hHeld.2.1), (cell_row (by show W3.heap.size ≠ W7.heap.size; omega) hHeld.2.2.1), (cell_row (by show W3.heap.size ≠ W7.heap.size; omega) hHeld.2.2.2.1), (cell_row (by show W3.heap.size ≠ W7.heap.size; omega) hHeld.2.2.2.2.1), (cell_row (by show W3.heap.size ≠ W7.heap.size; omega) hHeld.2.2.2.2.2.1), (cell_row (by show W3.heap.size ≠ W7.heap.size; omega) hHeld.2.2.2.2.2.2)⟩ (fun hHeld => ?_)
     clear hK K
     try simp only [Act.put, pu1, pu2, pu3, pu4, pu5, pu6]
     have D11a : Below W6.heap.size W6 (W10.setRow (W7.heap.size) (sc (.slice ao_g L_g cap_g) U.h (.slice ao_gp L_gp cap_gp) U.s)) := below_setRow D10.out (by omega) _
     obtain ⟨W11, HW11⟩ : ∃ X, Hid (W10.setRow (W7.heap.size) (sc (.slice ao_g L_g cap_g) U.h (.slice ao_gp L_gp cap_gp) U.s) = X) := ⟨_, rfl⟩
     have z11 : W10.heap.size ≤ W11.heap.size := by rw [← HW11.out]; simp
     have B11 : Hid (Below w.heap.size w W11) := by show Below _ _ _; rw [← HW11.out]; exact below_setRow B10.out (by have := B10.out.size; omega) _
     have o_g11 : Hid (Own W11 (lo_g) (hi_g) 9 (.slice ao_g L_g cap_g) (ss U.l)) := by show Own _ _ _ _ _ _; rw [← HW11.out]; exact Own.setRow o_g10.out _ (by omega)
     have o_gp11 : Hid (Own W11 (lo_gp) (hi_gp) 5 (.slice ao_gp L_gp cap_gp) (bs U.b)) := by show Own _ _ _ _ _ _; rw [← HW11.out]; exact Own.setRow o_gp10.out _ (by omega)
     have r_up11 : Hid (W11.heap[W7.heap.size]? = some (.cells #[.slice ao_g L_g cap_g, .int .i64 U.h.n, .string U.h.r, .slice ao_gp L_gp cap_gp, .int .i64 U.s] 37 (0, 0))) := by show _ = _; rw [← HW11.out]; exact setRow_heap _ _ _ _ _ (0, 0) r_up10.out
     rw [HW11.out]
     clear r_up10 o_g10 o_gp10
     rw [HW11.out] at hHeld
     have D11 : Hid (Below W6.heap.size W6 W11) := by show Below _ _ _; rw [← HW11.out]; exact D11a
     (refine wpAnyH_take (i := 12) (v := ?v12x86) rfl (by kernel_rfl) (by kernel_rfl) (by kernel_rfl) (fun _ _ _ h => h) (Or.inl ⟨by rfl, ?hy12x86⟩) (by assumption) ?rest12x86; case hy12x86 => (intro w hSw; (try dsimp only at hSw); go_split_ands; go_simp; (try with_reducible rfl)))
     try simp only [Act.put, pu1, pu2, pu3, pu4, pu5, pu6]
     refine wpAnyH_done (by kernel_rfl) ?_ _
     clear hHeld
     go_wp2_with fail
     go_meet
     exact ⟨W7.heap.size, rfl, rfl, by omega, (Array.getElem?_eq_some_iff.1 r_up11.out).1, D11.out, lo_g, hi_g, ao_g, L_g, cap_g, lo_gp, hi_gp, ao_gp, L_gp, cap_gp, by omega, by omega, by omega, by omega, by omega, by omega, by omega, o_g11.out, o_gp11.out, by omega, by omega, r_up11.out⟩
   ·
    go_simp
    refine hK.out _ _ ⟨(keepR (W := W6.drew) hHeld.1 ((Below.refl _ _).alloc (Nat.le_refl _) _)), (keepR (W := W6.drew) hHeld.2.1 ((Below.refl _ _).alloc (Nat.le_refl _) _)), (keepR (W := W6.drew) hHeld.2.2.1 ((Below.refl _ _).alloc (Nat.le_refl _) _)), (keepR (W := W6.drew) hHeld.2.2.2.1 ((Below.refl _ _).alloc (Nat.le_refl _) _)), (keepR (W := W6.drew) hHeld.2.2.2.2.1 ((Below.refl _ _).alloc (Nat.le_refl _) _)), (keepR (W := W6.drew) hHeld.2.2.2.2.2.1 ((Below.refl _ _).alloc (Nat.le_refl _) _)), (keepR (W := W6.drew) hHeld.2.2.2.2.2.2 ((Below.refl _ _).alloc (Nat.le_refl _) _))⟩ (fun hHeld => ?_)
    clear hK K
    try simp only [Act.put, pu1, pu2, pu3, pu4, pu5, pu6]
    obtain ⟨W7, HW7, b7, y7, r_up7⟩ : ∃ X, Hid ((W6.alloc (.cells #[.slice none 0 0, .int .i64 0, .string ⟨#[]⟩, .slice none 0 0, .int .i64 0] 37)).drew = X) ∧ Below W6.heap.size W6 X ∧ W6.heap.size + 1 ≤ X.heap.size ∧ Hid (X.heap[W6.heap.size]? = some (.cells #[.slice none 0 0, .int .i64 0, .string ⟨#[]⟩, .slice none 0 0, .int .i64 0] 37 (0, 0))) := ⟨_, rfl, (Below.drew ((Below.refl _ _).alloc (Nat.le_refl _) _)), (by show _ ≤ (W6.heap.push _).size; simp), heap_alloc_new W6 _⟩
    have HHW7 := HW7.out
    rw [HHW7] at hHeld ⊢
    clear HHW7
    have z7 : W6.heap.size ≤ W7.heap.size := b7.size
    have B7 : Hid (Below w.heap.size w W7) := B6.out.trans (b7.mono B6.out.size)
    have r_x7 : Hid (W7.heap[W3.heap.size]? = some (.cells #[.slice ao_x L_x cap_x, .int .i64 st2.h.n, .string st2.h.r, .slice ao_xp st2.b.length cap_xp, .int .i64 st2.s] 37 (0, 0))) := rowKeep r_x6.out b7
    have o_xp7 : Hid (Own W7 (lo_xp) (hi_xp) 5 (.slice ao_xp st2.b.length cap_xp) (bs st2.b)) := Own.later o_xp6.out b7 (by omega)
    have c_x7_0 : W7.cell? ⟨W3.heap.size, 0, none⟩ = some (.slice ao_x L_x cap_x) := row_at r_x7.out 0
    have c_x7_1 : W7.cell? ⟨W3.heap.size, 1, none⟩ = some (.int .i64 st2.h.n) := row_at r_x7.out 1
    have c_x7_2 : W7.cell? ⟨W3.heap.size, 2, none⟩ = some (.string st2.h.r) := row_at r_x7.out 2
    have c_x7_3 : W7.cell? ⟨W3.heap.size, 3, none⟩ = some (.slice ao_xp st2.b.length cap_xp) := row_at r_x7.out 3
    have c_x7_4 : W7.cell? ⟨W3.heap.size, 4, none⟩ = some (.int .i64 st2.s) := row_at r_x7.out 4
    clear r_x6 c_x6_0 c_x6_1 c_x6_2 c_x6_3 c_x6_4 o_xp6
    have f_t7 : Hid (Sh W7 (.slice ao_t t.length cap_t) t) := Sh.later f_t6.out b7
    clear f_t6
    have D7 : Hid (Below W6.heap.size W6 W7) := D6.out.trans (b7.mono D6.out.size)
    refine wpAnyH_ready (rs := [1]) (by kernel_rfl) (by simp) ?_
    refine AllReadyH.cons rfl (fun K hK => ?_) AllReadyH.nil
    go_simp
    refine hK.out _ _ ⟨(keepR (W := W7) hHeld.1 ((Below.refl _ _).alloc (Nat.le_refl _) _)), (keepR (W := W7) hHeld.2.1 ((Below.refl _ _).alloc (Nat.le_refl _) _)), (keepR (W := W7) hHeld.2.2.1 ((Below.refl _ _).alloc (Nat.le_refl _) _)), (keepR (W := W7) hHeld.2.2.2.1 ((Below.refl _ _).alloc (Nat.le_refl _) _)), (keepR (W := W7) hHeld.2.2.2.2.1 ((Below.refl _ _).alloc (Nat.le_refl _) _)), (keepR (W := W7) hHeld.2.2.2.2.2.1 ((Below.refl _ _).alloc (Nat.le_refl _) _)), (keepR (W := W7) hHeld.2.2.2.2.2.2 ((Below.refl _ _).alloc (Nat.le_refl _) _))⟩ (fun hHeld => ?_)
    clear hK K
    try simp only [Act.put, pu1, pu2, pu3, pu4, pu5, pu6]
    obtain ⟨W8, HW8, b8, ff8⟩ : ∃ X, Hid ((W7.alloc (.cells #[.int .i64 h.n, .string h.r] 28)) = X) ∧ Below W7.heap.size W7 X ∧ Hid (Oht X W7.heap.size X.heap.size (.slice (some ⟨W7.heap.size, 0, none⟩) 1 1) [h]) := ⟨_, rfl, ((Below.refl _ _).alloc (Nat.le_refl _) _), ⟨lit1H W7 W7.heap.size h (Nat.le_refl _), Nat.le_refl _⟩⟩
    have HHW8 := HW8.out
    rw [HHW8] at hHeld ⊢
    clear HHW8
    have hlt8 : W7.heap.size < W8.heap.size := by have := ff8.out.1.2 _ rfl; exact this
    have z8 : W7.heap.size ≤ W8.heap.size := b8.size
    have B8 : Hid (Below w.heap.size w W8) := B7.out.trans (b8.mono B7.out.size)
    have r_x8 : Hid (W8.heap[W3.heap.size]? = some (.cells #[.slice ao_x L_x cap_x, .int .i64 st2.h.n, .string st2.h.r, .slice ao_xp st2.b.length cap_xp, .int .i64 st2.s] 37 (0, 0))) := rowKeep r_x7.out b8
    have r_up8 : Hid (W8.heap[W6.heap.size]? = some (.cells #[.slice none 0 0, .int .i64 0, .string ⟨#[]⟩, .slice none 0 0, .int .i64 0] 37 (0, 0))) := rowKeep r_up7.out b8
    have o_xp8 : Hid (Own W8 (lo_xp) (hi_xp) 5 (.slice ao_xp st2.b.length cap_xp) (bs st2.b)) := Own.later o_xp7.out b8 (by omega)
    have c_x8_0 : W8.cell? ⟨W3.heap.size, 0, none⟩ = some (.slice ao_x L_x cap_x) := row_at r_x8.out 0
    have c_x8_1 : W8.cell? ⟨W3.heap.size, 1, none⟩ = some (.int .i64 st2.h.n) := row_at r_x8.out 1
    have c_x8_2 : W8.cell? ⟨W3.heap.size, 2, none⟩ = some (.string st2.h.r) := row_at r_x8.out 2
    have c_x8_3 : W8.cell? ⟨W3.heap.size, 3, none⟩ = some (.slice ao_xp st2.b.length cap_xp) := row_at r_x8.out 3
    have c_up8_0 : W8.cell? ⟨W6.heap.size, 0, none⟩ = some (.slice none 0 0) := row_at r_up8.out 0
    clear r_x7 c_x7_0 c_x7_1 c_x7_2 c_x7_3 c_x7_4 r_up7 o_xp7
    have f_t8 : Hid (Sh W8 (.slice ao_t t.length cap_t) t) := Sh.later f_t7.out b8
    clear f_t7
    have D8 : Hid (Below W6.heap.size W6 W8) := D7.out.trans (b8.mono D7.out.size)
    have f_lt8 : Hid (Oht W8 W7.heap.size W8.heap.size (.slice (some ⟨W7.heap.size, 0, none⟩) 1 1) [h]) := ff8.out
    clear ff8
    refine wpAnyH_ready (rs := [3]) (by kernel_rfl) (by simp) ?_
    refine AllReadyH.cons rfl (fun K hK => ?_) AllReadyH.nil
    refine step_appn 2 (by omega) rfl (.tmp 68) (.tmp 69) 35 (by rfl) 28 iH (.agg #[.int .i64 0, .string ⟨#[]⟩]) 24 Tryz.underlying35 hiH hzHa hzHb hzHc rfl (W7.heap.size) _ 1 (hds [h]) (by rfl) (On.mono f_lt8.out.1 (Nat.le_refl _) f_lt8.out.2) _ (by rfl) t.length (hds t) f_t8.out (hds_one t) (by unfold maxLen; omega) (by omega) (by omega) ?_
    intro v_q W9 o_q9 _ g9
    have g9 : W8.grownBy W9 (some (W7.heap.size)) := g9
    refine hK.out _ _ ⟨(cellGro hHeld.1 g9 (by show some (W7.heap.size) ≠ some (W1.heap.size + 1); intro h9; injection h9 with h9; omega)), (cellGro hHeld.2.1 g9 (by show some (W7.heap.size) ≠ some (W1.heap.size + 1); intro h9; injection h9 with h9; omega)), (cellGro hHeld.2.2.1 g9 (by show some (W7.heap.size) ≠ some (W3.heap.size); intro h9; injection h9 with h9; omega)), (cellGro hHeld.2.2.2.1 g9 (by show some (W7.heap.size) ≠ some (W3.heap.size); intro h9; injection h9 with h9; omega)), (cellGro hHeld.2.2.2.2.1 g9 (by show some (W7.heap.size) ≠ some (W3.heap.size); intro h9; injection h9 with h9; omega)), (cellGro hHeld.2.2.2.2.2.1 g9 (by show some (W7.heap.size) ≠ some (W3.heap.size); intro h9; injection h9 with h9; omega)), (cellGro hHeld.2.2.2.2.2.2 g9 (by show some (W7.heap.size) ≠ some (W3.heap.size); intro h9; injection h9 with h9; omega))⟩ (fun hHeld => ?_)
    clear hK K
    try simp only [Act.put, pu1, pu2, pu3, pu4, pu5, pu6]
    have z9 : W8.heap.size ≤ W9.heap.size := g9.size
    have B9 : Hid (Below w.heap.size w W9) := belowGro B8.out g9 B8.out.size (fun k9 h9 => by injection h9 with h9; have := B8.out.size; omega)
    have D9 : Hid (Below W6.heap.size W6 W9) := belowGro D8.out g9 D8.out.size (fun k9 h9 => by injection h9 with h9; omega)
    have r_up9 : Hid (W9.heap[W6.heap.size]? = some (.cells #[.slice none 0 0, .int .i64 0, .string ⟨#[]⟩, .slice none 0 0, .int .i64 0] 37 (0, 0))) := rowGro r_up8.out g9 (fun h9 => by injection h9 with h9; omega)
    have o_xp9 : Hid (Own W9 (lo_xp) (hi_xp) 5 (.slice ao_xp st2.b.length cap_xp) (bs st2.b)) := Own.gro o_xp8.out g9 (fun k9 h9 e9 => by injection e9 with e9; have h8 := (o_xp8.out.1.lt k9 h9).1; have h7 := o_xp8.out.2 k9 h9; omega)
    clear r_x8 c_x8_0 c_x8_1 c_x8_2 c_x8_3 r_up8 c_up8_0 o_xp8
    have f_q9 : Hid (Sh W9 v_q (h :: t)) := by
     have h9 := On.sn o_q9
     rw [← hds_app [h] t, Nat.add_comm] at h9
     exact h9
    clear f_t8 f_lt8 o_q9 g9
    refine wpAnyH_ready (rs := [6]) (by kernel_rfl) (by simp) ?_
    refine AllReadyH.cons rfl (fun K hK => ?_) AllReadyH.nil
    go_simp
    refine (q3 W9 _ _ B9.out f_q9.out o_xp9.out.sl).mono ?_
    rintro e W10 ⟨v_g, v_gp, rfl, o_g10, o_gp10, b10⟩
    refine hK.out _ _ ⟨(keepR (W := W9) hHeld.1 b10), (keepR (W := W9) hHeld.2.1 b10), (keepR (W := W9) hHeld.2.2.1 b10), (keepR (W := W9) hHeld.2.2.2.1 b10), (keepR (W := W9) hHeld.2.2.2.2.1 b10), (keepR (W := W9) hHeld.2.2.2.2.2.1 b10), (keepR (W := W9) hHeld.2.2.2.2.2.2 b10)⟩ (fun hHeld => ?_)
    clear hK K
    try simp only [Act.put, pu1, pu2, pu3, pu4, pu5, pu6]
    obtain ⟨lo_g, hi_g, lo_gp, hi_gp, d1_g, d2_g, d3_g, d4_g, d5_g, d6_g, d7_g, oo_g, oo_gp⟩ := Sr.pairN o_g10 o_gp10 b10.size
    clear o_g10 o_gp10
    obtain ⟨ao_g, L_g, cap_g, rfl, _, _⟩ := oo_g.form
    obtain ⟨ao_gp, L_gp, cap_gp, rfl, _, _⟩ := oo_gp.form
    have o_g10 : Hid (Own W10 lo_g hi_g 9 (.slice ao_g L_g cap_g) (ss U.l)) := oo_g
    have o_gp10 : Hid (Own W10 lo_gp hi_gp 5 (.slice ao_gp L_gp cap_gp) (bs U.b)) := oo_gp
    clear oo_g oo_gp
    have z10 : W9.heap.size ≤ W10.heap.size := b10.size
    have B10 : Hid (Below w.heap.size w W10) := B9.out.trans (b10.mono B9.out.size)
    have r_up10 : Hid (W10.heap[W6.heap.size]? = some (.cells #[.slice none 0 0, .int .i64 0, .string ⟨#[]⟩, .slice none 0 0, .int .i64 0] 37 (0, 0))) := rowKeep r_up9.out b10
    clear r_up9 o_xp9
    clear f_q9
    have D10 : Hid (Below W6.heap.size W6 W10) := D9.out.trans (b10.mono D9.out.size)
    (refine wpAnyH_take (i := 7) (v := ?v7x87) rfl (by kernel_rfl) (by kernel_rfl) (by kernel_rfl) (fun _ _ _ h => h) (Or.inl ⟨by rfl, ?hy7x87⟩) (by assumption) ?rest7x87; case hy7x87 => (intro w hSw; (try dsimp only at hSw); go_split_ands; go_simp; (try with_reducible rfl)))
    try simp only [Act.put, pu1, pu2, pu3, pu4, pu5, pu6]
    (refine wpAnyH_take (i := 8) (v := ?v8x88) rfl (by kernel_rfl) (by kernel_rfl) (by kernel_rfl) (fun _ _ _ h => h) (Or.inl ⟨by rfl, ?hy8x88⟩) (by assumption) ?rest8x88; case hy8x88 => (intro w hSw; (try dsimp only at hSw); go_split_ands; go_simp; (try with_reducible rfl)))
    try simp only [Act.put, pu1, pu2, pu3, pu4, pu5, pu6]
    (refine wpAnyH_take (i := 9) (v := ?v9x89) rfl (by kernel_rfl) (by kernel_rfl) (by kernel_rfl) (fun _ _ _ h => h) (Or.inl ⟨by rfl, ?hy9x89⟩) (by assumption) ?rest9x89; case hy9x89 => (intro w hSw; (try dsimp only at hSw); go_split_ands; go_simp; (try with_reducible rfl)))
    try simp only [Act.put, pu1, pu2, pu3, pu4, pu5, pu6]
    refine wpAnyH_ready (rs := [11]) (by kernel_rfl) (by simp) ?_
    refine AllReadyH.cons rfl (fun K hK => ?_) AllReadyH.nil
    rw [if_pos (by rfl)]
    refine wp_store_row 37 _ _ rfl (W6.heap.size) (sc (.slice ao_g L_g cap_g) U.h (.slice ao_gp L_gp cap_gp) U.s) rfl rfl 37 _ r_up10.out (sizeS _ _ _ _) rfl (oneS _ _ rfl rfl) ?_
    refine hK.out _ _ ⟨(cell_row (by show W1.heap.size + 1 ≠ W6.heap.size; omega) hHeld.1), (cell_row (by show W1.heap.size + 1 ≠ W6.heap.size; omega) hHeld.2.1), (cell_row (by show W3.heap.size ≠ W6.heap.size; omega) hHeld.2.2.1), (cell_row (by show W3.heap.size ≠ W6.heap.size; omega) hHeld.2.2.2.1), (cell_row (by show W3.heap.size ≠ W6.heap.size; omega) hHeld.2.2.2.2.1), (cell_row (by show W3.heap.size ≠ W6.heap.size; omega) hHeld.2.2.2.2.2.1), (cell_row (by show W3.heap.size ≠ W6.heap.size; omega) hHeld.2.2.2.2.2.2)⟩ (fun hHeld => ?_)
    clear hK K
    try simp only [Act.put, pu1, pu2, pu3, pu4, pu5, pu6]
    have D11a : Below W6.heap.size W6 (W10.setRow (W6.heap.size) (sc (.slice ao_g L_g cap_g) U.h (.slice ao_gp L_gp cap_gp) U.s)) := below_setRow D10.out (by omega) _
    obtain ⟨W11, HW11⟩ : ∃ X, Hid (W10.setRow (W6.heap.size) (sc (.slice ao_g L_g cap_g) U.h (.slice ao_gp L_gp cap_gp) U.s) = X) := ⟨_, rfl⟩
    have z11 : W10.heap.size ≤ W11.heap.size := by rw [← HW11.out]; simp
    have B11 : Hid (Below w.heap.size w W11) := by show Below _ _ _; rw [← HW11.out]; exact below_setRow B10.out (by have := B10.out.size; omega) _
    have o_g11 : Hid (Own W11 (lo_g) (hi_g) 9 (.slice ao_g L_g cap_g) (ss U.l)) := by show Own _ _ _ _ _ _; rw [← HW11.out]; exact Own.setRow o_g10.out _ (by omega)
    have o_gp11 : Hid (Own W11 (lo_gp) (hi_gp) 5 (.slice ao_gp L_gp cap_gp) (bs U.b)) := by show Own _ _ _ _ _ _; rw [← HW11.out]; exact Own.setRow o_gp10.out _ (by omega)
    have r_up11 : Hid (W11.heap[W6.heap.size]? = some (.cells #[.slice ao_g L_g cap_g, .int .i64 U.h.n, .string U.h.r, .slice ao_gp L_gp cap_gp, .int .i64 U.s] 37 (0, 0))) := by show _ = _; rw [← HW11.out]; exact setRow_heap _ _ _ _ _ (0, 0) r_up10.out
    rw [HW11.out]
    clear r_up10 o_g10 o_gp10
    rw [HW11.out] at hHeld
    have D11 : Hid (Below W6.heap.size W6 W11) := by show Below _ _ _; rw [← HW11.out]; exact D11a
    (refine wpAnyH_take (i := 12) (v := ?v12x90) rfl (by kernel_rfl) (by kernel_rfl) (by kernel_rfl) (fun _ _ _ h => h) (Or.inl ⟨by rfl, ?hy12x90⟩) (by assumption) ?rest12x90; case hy12x90 => (intro w hSw; (try dsimp only at hSw); go_split_ands; go_simp; (try with_reducible rfl)))
    try simp only [Act.put, pu1, pu2, pu3, pu4, pu5, pu6]
    refine wpAnyH_done (by kernel_rfl) ?_ _
    clear hHeld
    go_wp2_with fail
    go_meet
    exact ⟨W6.heap.size, rfl, rfl, by omega, (Array.getElem?_eq_some_iff.1 r_up11.out).1, D11.out, lo_g, hi_g, ao_g, L_g, cap_g, lo_gp, hi_gp, ao_gp, L_gp, cap_gp, by omega, by omega, by omega, by omega, by omega, by omega, by omega, o_g11.out, o_gp11.out, by omega, by omega, r_up11.out⟩
  case rest =>
  obtain ⟨g_up, rfl, rfl, hg_up, hg2_up, b7, lo_g, hi_g, ao_g, L_g, cap_g, lo_gp, hi_gp, ao_gp, L_gp, cap_gp, d1_g, d2_g, d3_g, d1_gp, d2_gp, d3_gp, d_g_gp, oo_g, oo_gp, hgf_g, hgf_gp, r_up7⟩ := hcut
  revert hg2_up b7 d3_g d3_gp oo_g oo_gp r_up7
  generalize wc = W7
  intro hg2_up b7 d3_g d3_gp oo_g oo_gp r_up7
  have r_up7 : Hid (W7.heap[g_up]? = some (.cells #[.slice ao_g L_g cap_g, .int .i64 U.h.n, .string U.h.r, .slice ao_gp L_gp cap_gp, .int .i64 U.s] 37 (0, 0))) := r_up7
  have o_g7 : Hid (Own W7 lo_g hi_g 9 (.slice ao_g L_g cap_g) (ss U.l)) := oo_g
  clear oo_g
  have o_gp7 : Hid (Own W7 lo_gp hi_gp 5 (.slice ao_gp L_gp cap_gp) (bs U.b)) := oo_gp
  clear oo_gp
  have z7 : W6.heap.size ≤ W7.heap.size := b7.size
  have B7 : Hid (Below w.heap.size w W7) := B6.out.trans (b7.mono B6.out.size)
  have r_s7 : Hid (W7.heap[W1.heap.size]? = some (.cells #[.slice ao_v st.l.length cap_v, .int .i64 st.h.n, .string st.h.r, .slice ao_u st.b.length cap_u, .int .i64 st.s] 37 (0, 0))) := rowKeep r_s6.out b7
  have r_h7 : Hid (W7.heap[W1.heap.size + 1]? = some (.cells #[.int .i64 h.n, .string h.r] 28 (0, 0))) := rowKeep r_h6.out b7
  have r_x7 : Hid (W7.heap[W3.heap.size]? = some (.cells #[.slice ao_x L_x cap_x, .int .i64 st2.h.n, .string st2.h.r, .slice ao_xp st2.b.length cap_xp, .int .i64 st2.s] 37 (0, 0))) := rowKeep r_x6.out b7
  have o_x7 : Hid (Own W7 (lo_x) (hi_x) 9 (.slice ao_x L_x cap_x) (ss st2.l)) := Own.later o_x6.out b7 (by omega)
  have o_xp7 : Hid (Own W7 (lo_xp) (hi_xp) 5 (.slice ao_xp st2.b.length cap_xp) (bs st2.b)) := Own.later o_xp6.out b7 (by omega)
  have c_x7_0 : W7.cell? ⟨W3.heap.size, 0, none⟩ = some (.slice ao_x L_x cap_x) := row_at r_x7.out 0
  have c_x7_1 : W7.cell? ⟨W3.heap.size, 1, none⟩ = some (.int .i64 st2.h.n) := row_at r_x7.out 1
  have c_x7_2 : W7.cell? ⟨W3.heap.size, 2, none⟩ = some (.string st2.h.r) := row_at r_x7.out 2
  have c_x7_3 : W7.cell? ⟨W3.heap.size, 3, none⟩ = some (.slice ao_xp st2.b.length cap_xp) := row_at r_x7.out 3
  have c_x7_4 : W7.cell? ⟨W3.heap.size, 4, none⟩ = some (.int .i64 st2.s) := row_at r_x7.out 4
  clear r_s6 r_h6 c_h6_0 c_h6_1 r_x6 c_x6_0 c_x6_1 c_x6_2 c_x6_3 c_x6_4 o_x6 o_xp6
  have f_t7 : Hid (Sh W7 (.slice ao_t t.length cap_t) t) := Sh.later f_t6.out b7
  clear f_v6 f_t6
  go_wp2_with fail
  refine (q4 W7 _ _ B7.out o_x7.out.sl o_xp7.out.sl).mono ?_
  rintro e W8 ⟨rfl, b8⟩
  have z8 : W7.heap.size ≤ W8.heap.size := b8.size
  have B8 : Hid (Below w.heap.size w W8) := B7.out.trans (b8.mono B7.out.size)
  have r_s8 : Hid (W8.heap[W1.heap.size]? = some (.cells #[.slice ao_v st.l.length cap_v, .int .i64 st.h.n, .string st.h.r, .slice ao_u st.b.length cap_u, .int .i64 st.s] 37 (0, 0))) := rowKeep r_s7.out b8
  have r_h8 : Hid (W8.heap[W1.heap.size + 1]? = some (.cells #[.int .i64 h.n, .string h.r] 28 (0, 0))) := rowKeep r_h7.out b8
  have r_x8 : Hid (W8.heap[W3.heap.size]? = some (.cells #[.slice ao_x L_x cap_x, .int .i64 st2.h.n, .string st2.h.r, .slice ao_xp st2.b.length cap_xp, .int .i64 st2.s] 37 (0, 0))) := rowKeep r_x7.out b8
  have r_up8 : Hid (W8.heap[g_up]? = some (.cells #[.slice ao_g L_g cap_g, .int .i64 U.h.n, .string U.h.r, .slice ao_gp L_gp cap_gp, .int .i64 U.s] 37 (0, 0))) := rowKeep r_up7.out b8
  have o_x8 : Hid (Own W8 (lo_x) (hi_x) 9 (.slice ao_x L_x cap_x) (ss st2.l)) := Own.later o_x7.out b8 (by omega)
  have o_xp8 : Hid (Own W8 (lo_xp) (hi_xp) 5 (.slice ao_xp st2.b.length cap_xp) (bs st2.b)) := Own.later o_xp7.out b8 (by omega)
  have o_g8 : Hid (Own W8 (lo_g) (hi_g) 9 (.slice ao_g L_g cap_g) (ss U.l)) := Own.later o_g7.out b8 (by omega)
  have o_gp8 : Hid (Own W8 (lo_gp) (hi_gp) 5 (.slice ao_gp L_gp cap_gp) (bs U.b)) := Own.later o_gp7.out b8 (by omega)
  have c_s8_3 : W8.cell? ⟨W1.heap.size, 3, none⟩ = some (.slice ao_u st.b.length cap_u) := row_at r_s8.out 3
  have c_h8_0 : W8.cell? ⟨W1.heap.size + 1, 0, none⟩ = some (.int .i64 h.n) := row_at r_h8.out 0
  have c_h8_1 : W8.cell? ⟨W1.heap.size + 1, 1, none⟩ = some (.string h.r) := row_at r_h8.out 1
  have c_x8_0 : W8.cell? ⟨W3.heap.size, 0, none⟩ = some (.slice ao_x L_x cap_x) := row_at r_x8.out 0
  have c_x8_1 : W8.cell? ⟨W3.heap.size, 1, none⟩ = some (.int .i64 st2.h.n) := row_at r_x8.out 1
  have c_x8_2 : W8.cell? ⟨W3.heap.size, 2, none⟩ = some (.string st2.h.r) := row_at r_x8.out 2
  have c_x8_3 : W8.cell? ⟨W3.heap.size, 3, none⟩ = some (.slice ao_xp st2.b.length cap_xp) := row_at r_x8.out 3
  have c_up8_0 : W8.cell? ⟨g_up, 0, none⟩ = some (.slice ao_g L_g cap_g) := row_at r_up8.out 0
  clear r_s7 r_h7 r_x7 c_x7_0 c_x7_1 c_x7_2 c_x7_3 c_x7_4 r_up7 o_x7 o_xp7 o_g7 o_gp7
  have f_t8 : Hid (Sh W8 (.slice ao_t t.length cap_t) t) := Sh.later f_t7.out b8
  clear f_t7
  have hE2 := G2.out
  have ee : ∀ W, _ := fun W => eqlH W st2.h h
  have hhh : eqH st2.h h = true := (eqH_iff _ _).2 hE2
  simp only [hhh] at ee
  have gg : ∀ W op y z xs ys, _ := fun W op y z xs ys => grdH W op y z xs ys
  clear hE2 hhh
  by_cases hn0 : 0 < nU
  ·
   have dn : (0 : Int) < (nU : Int) := by omega
   go_wp2_with fail
   refine (begins_true W8 _ _ U.l st2.l o_g8.out.sl o_x8.out.sl G5.out (by omega)).mono ?_
   rintro e W9 ⟨rfl, b9⟩
   have z9 : W8.heap.size ≤ W9.heap.size := b9.size
   have B9 : Hid (Below w.heap.size w W9) := B8.out.trans (b9.mono B8.out.size)
   have r_up9 : Hid (W9.heap[g_up]? = some (.cells #[.slice ao_g L_g cap_g, .int .i64 U.h.n, .string U.h.r, .slice ao_gp L_gp cap_gp, .int .i64 U.s] 37 (0, 0))) := rowKeep r_up8.out b9
   have o_xp9 : Hid (Own W9 (lo_xp) (hi_xp) 5 (.slice ao_xp st2.b.length cap_xp) (bs st2.b)) := Own.later o_xp8.out b9 (by omega)
   have o_g9 : Hid (Own W9 (lo_g) (hi_g) 9 (.slice ao_g L_g cap_g) (ss U.l)) := Own.later o_g8.out b9 (by omega)
   have o_gp9 : Hid (Own W9 (lo_gp) (hi_gp) 5 (.slice ao_gp L_gp cap_gp) (bs U.b)) := Own.later o_gp8.out b9 (by omega)
   clear r_s8 c_s8_3 r_h8 c_h8_0 c_h8_1 r_x8 c_x8_0 c_x8_1 c_x8_2 c_x8_3 r_up8 c_up8_0 o_x8 o_xp8 o_g8 o_gp8
   clear f_t8
   go_wp2
   go_ret
   exact ⟨rfl, B9.out⟩
  ·
   have dn : ¬ (0 : Int) < (nU : Int) := by omega
   have db : (0 : Int) < (st.b.length : Int) := by have := G4.out; omega
   go_wp2_with fail
   refine (begins_true W8 _ _ U.l st2.l o_g8.out.sl o_x8.out.sl G5.out (by omega)).mono ?_
   rintro e W9 ⟨rfl, b9⟩
   have z9 : W8.heap.size ≤ W9.heap.size := b9.size
   have B9 : Hid (Below w.heap.size w W9) := B8.out.trans (b9.mono B8.out.size)
   have r_up9 : Hid (W9.heap[g_up]? = some (.cells #[.slice ao_g L_g cap_g, .int .i64 U.h.n, .string U.h.r, .slice ao_gp L_gp cap_gp, .int .i64 U.s] 37 (0, 0))) := rowKeep r_up8.out b9
   have o_xp9 : Hid (Own W9 (lo_xp) (hi_xp) 5 (.slice ao_xp st2.b.length cap_xp) (bs st2.b)) := Own.later o_xp8.out b9 (by omega)
   have o_g9 : Hid (Own W9 (lo_g) (hi_g) 9 (.slice ao_g L_g cap_g) (ss U.l)) := Own.later o_g8.out b9 (by omega)
   have o_gp9 : Hid (Own W9 (lo_gp) (hi_gp) 5 (.slice ao_gp L_gp cap_gp) (bs U.b)) := Own.later o_gp8.out b9 (by omega)
   clear r_s8 c_s8_3 r_h8 c_h8_0 c_h8_1 r_x8 c_x8_0 c_x8_1 c_x8_2 c_x8_3 r_up8 c_up8_0 o_x8 o_xp8 o_g8 o_gp8
   clear f_t8
   go_wp2
   go_ret
   exact ⟨rfl, B9.out⟩
 ·
  have cn : (c == 0) = false := by rw [beq_eq_false_iff_ne]; exact hc0
  have cm : (c != 0) = true := by rw [bne, cn]; rfl
  have e9 := (HB.out hc0).symm
  subst e9
  have nb : ((st.b.length : Int) == (st.b.length : Int)) = true := by simp
  clear iCom iOpen iSOk q1 q2
  go_wp2_with fail
  rw [HW6.out]
  clear a_s5_0 a_s5_3 a_h5_0 a_h5_1 a_x5_0 a_x5_1 a_x5_2 a_x5_3 a_x5_4
  refine (Draw.same_true W6 _ _ st.l o_x6.out.sl f_v6.out (by omega)).mono ?_
  rintro e W7 ⟨rfl, h7, _⟩
  have b7 : Below W6.heap.size W6 W7 := h7 _
  clear h7
  have z7 : W6.heap.size ≤ W7.heap.size := b7.size
  have B7 : Hid (Below w.heap.size w W7) := B6.out.trans (b7.mono B6.out.size)
  have r_s7 : Hid (W7.heap[W1.heap.size]? = some (.cells #[.slice ao_v st.l.length cap_v, .int .i64 st.h.n, .string st.h.r, .slice ao_u st.b.length cap_u, .int .i64 st.s] 37 (0, 0))) := rowKeep r_s6.out b7
  have r_h7 : Hid (W7.heap[W1.heap.size + 1]? = some (.cells #[.int .i64 h.n, .string h.r] 28 (0, 0))) := rowKeep r_h6.out b7
  have r_x7 : Hid (W7.heap[W3.heap.size]? = some (.cells #[.slice ao_x L_x cap_x, .int .i64 st.h.n, .string st.h.r, .slice ao_xp st.b.length cap_xp, .int .i64 st.s] 37 (0, 0))) := rowKeep r_x6.out b7
  have o_x7 : Hid (Own W7 (lo_x) (hi_x) 9 (.slice ao_x L_x cap_x) (ss st.l)) := Own.later o_x6.out b7 (by omega)
  have o_xp7 : Hid (Own W7 (lo_xp) (hi_xp) 5 (.slice ao_xp st.b.length cap_xp) (bs st.b)) := Own.later o_xp6.out b7 (by omega)
  have c_x7_0 : W7.cell? ⟨W3.heap.size, 0, none⟩ = some (.slice ao_x L_x cap_x) := row_at r_x7.out 0
  have c_x7_1 : W7.cell? ⟨W3.heap.size, 1, none⟩ = some (.int .i64 st.h.n) := row_at r_x7.out 1
  have c_x7_2 : W7.cell? ⟨W3.heap.size, 2, none⟩ = some (.string st.h.r) := row_at r_x7.out 2
  have c_x7_3 : W7.cell? ⟨W3.heap.size, 3, none⟩ = some (.slice ao_xp st.b.length cap_xp) := row_at r_x7.out 3
  have c_x7_4 : W7.cell? ⟨W3.heap.size, 4, none⟩ = some (.int .i64 st.s) := row_at r_x7.out 4
  clear r_s6 r_h6 c_h6_0 c_h6_1 r_x6 c_x6_0 c_x6_1 c_x6_2 c_x6_3 c_x6_4 r_y6 c_y6_1 c_y6_2 c_y6_4 o_x6 o_xp6 o_y6 o_yp6
  have f_t7 : Hid (Sh W7 (.slice ao_t t.length cap_t) t) := Sh.later f_t6.out b7
  clear f_v6 f_t6
  go_wp2
  go_ret
  exact ⟨rfl, B7.out⟩
end Go.Proofs.YtfpaichdkddglaaGreatDoor.Sr
