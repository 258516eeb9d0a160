/- Texts in one: LgX, SrY, Ed1. -/
import Derived.Test.YtfpaichdkddglabGreatDoorPk13
import Derived.Test.YtfpaichdkddglabGreatDoorPk10
import Derived.Test.YtfpaichdkddglabGreatDoorPk11
import Derived.Test.YtfpaichdkddglabGreatDoorPk9
import Derived.Test.YtfpaichdkddglabGreatDoorPk17
import Derived.Test.YtfpaichdkddglabGreatDoorPk19
import Derived.Deep.DeepCutAuto
namespace Go.Proofs.YtfpaichdkddglabGreatDoor.Lg
open Go.RowKit Go.Proofs.YtfpaichdkddglabGreatDoor.Mem Go.Proofs.YtfpaichdkddglabGreatDoor.Laws Go.Proofs.YtfpaichdkddglabGreatDoor.Bytes Go.Proofs.YtfpaichdkddglabGreatDoor.Sha Go.Proofs.YtfpaichdkddglabGreatDoor.Tr Go.Proofs.YtfpaichdkddglabGreatDoor.He
set_option linter.unusedVariables false
set_option linter.unusedSimpArgs false
def Ohx (w : World) (lo hi : Nat) (v : Value) (t : List Hd) : Prop := Oh w lo hi v t ∧ hi ≤ w.heap.size
theorem Ohx.later {w w' : World} {lo hi : Nat} {v : Value} {t : List Hd} (h : Ohx w lo hi v t) (b : Below w.heap.size w w') : Ohx w' lo hi v t := ⟨h.1.later b h.2, Nat.le_trans h.2 b.size⟩
theorem Ohx.apart {w w' : World} {lo hi lo' hi' : Nat} {v : Value} {t : List Hd} (h : Ohx w lo hi v t) (a : Apart lo' hi' w w') (hd : hi ≤ lo' ∨ hi' ≤ lo) : Ohx w' lo hi v t := ⟨On.apart h.1 a (by omega) h.2, Nat.le_trans h.2 a.size⟩
theorem ext_len (l : List ByteArray) (hd : Hd) (t : List Hd) (h : Hd) (x : List ByteArray) : (extend l hd t h x).1.length ≤ l.length + x.length := by
 unfold extend
 repeat' split
 all_goals simp
end Go.Proofs.YtfpaichdkddglabGreatDoor.Lg
namespace Go.Proofs.YtfpaichdkddglabGreatDoor.Sr
open Go.RowKit Go.Proofs.YtfpaichdkddglabGreatDoor.Mem Go.Proofs.YtfpaichdkddglabGreatDoor.Laws Go.Proofs.YtfpaichdkddglabGreatDoor.Bytes Go.Proofs.YtfpaichdkddglabGreatDoor.Sha Go.Proofs.YtfpaichdkddglabGreatDoor.Tr Go.Proofs.YtfpaichdkddglabGreatDoor.He Go.Proofs.YtfpaichdkddglabGreatDoor.Lg
set_option linter.unusedVariables false
set_option linter.unusedSimpArgs false
theorem On.apart2 {n m : Nat} {l1 h1 l2 h2 lo hi : Nat} {w w' : World} {e : TypeId} {v : Value} {cs : List Value} (h : On n w lo hi e v m cs) (p : Apart2 l1 h1 l2 h2 w w') (d1 : hi ≤ l1 ∨ h1 ≤ lo) (d2 : hi ≤ l2 ∨ h2 ≤ lo) (hs : hi ≤ w.heap.size) : On n w' lo hi e v m cs := by
 obtain ⟨q, a, b⟩ := p
 exact On.apart (On.apart h a d1 hs) b d2 (Nat.le_trans hs a.size)
theorem Ohx.apart2 {w w' : World} {lo hi l1 h1 l2 h2 : Nat} {v : Value} {t : List Hd} (h : Ohx w lo hi v t) (a : Apart2 l1 h1 l2 h2 w w') (d1 : hi ≤ l1 ∨ h1 ≤ lo) (d2 : hi ≤ l2 ∨ h2 ≤ lo) : Ohx w' lo hi v t := ⟨On.apart2 h.1 a d1 d2 h.2, Nat.le_trans h.2 a.size⟩
theorem openS_len (t : List Hd) {xs : List Int} (hb : Byt xs) : (openS t xs).1.l.length ≤ 200 ∧ (openS t xs).1.b.length ≤ 60000 ∧ (openS t xs).2 ≤ 60000 := by
 obtain ⟨h1, h2, _⟩ := ok_parts (openS_ok t hb).1
 refine ⟨(logOk_yes h1).1, h2, ?_⟩
 have : ∀ (f a : Nat) (st : Sto) (n : Nat) (ys : List Int), Byt ys → n ≤ a → a ≤ ys.length → (openF f t ys a st n).2 ≤ ys.length := by
  intro f
  induction f with
  | zero => intro a st n ys _ h1 h2; exact Nat.le_trans h1 h2
  | succ f ih =>
   intro a st n ys hb h1 h2
   rw [openF]
   split
   ·
    split
    ·
     rename_i hc
     obtain ⟨h', x', p, ok, hgc⟩ : ∃ h' x' p ok, getC ys (a : Int) = (h', x', p, ok) := ⟨_, _, _, _, rfl⟩
     rw [hgc] at hc ⊢
     simp only at hc ⊢
     obtain ⟨rfl, hc⟩ := hc
     obtain ⟨q, rfl, hq, hqx, _⟩ := put_get hb hgc
     have hp' := put_pos h' x'
     simp only [Int.toNat_natCast]
     exact ih q _ _ ys hb (by omega) hqx
    ·
     exact Nat.le_trans h1 h2
   ·
    exact Nat.le_trans h1 h2
 have h9 := this (xs.take 60000).length 0 new12 0 (xs.take 60000) (fun y hy => hb y (List.mem_of_mem_take hy)) (Nat.le_refl _) (Nat.zero_le _)
 have h8 : (xs.take 60000).length ≤ 60000 := by rw [List.length_take]; omega
 exact Nat.le_trans h9 h8
set_option maxRecDepth 1000000 in
set_option maxHeartbeats 16000000 in
theorem exact_openstore (w : World) (vt vb : Value) (t : List Hd) (b : List Int) (hst : Sh w vt t) (y0 : ∀ n ∈ t, n.r.size ≤ maxLen) (m0 : t.length ≤ maxLen) (hb : Sl w vb (bs b)) (hby : Byt b) (hmb : b.length ≤ maxLen)
  (iF : ∀ W v' vb', Below w.heap.size w W → Sh W v' t → Sl W vb' (bs b) → t.length ≤ 1048576 → (∀ n ∈ t, n.r.size ≤ 1048576) → b.length ≤ 1048576 → Calls Tryz.prog 27 #[v', vb'] W fun e w' => ∃ u ub, e = .returned (.tuple #[.agg #[u, .int .i64 (openS t b).1.h.n, .string (openS t b).1.h.r, ub, .int .i64 (openS t b).1.s], .int .i64 ((openS t b).2 : Int)]) ∧ Own w' W.heap.size w'.heap.size 9 u (ss (openS t b).1.l) ∧ Own w' W.heap.size w'.heap.size 5 ub (bs (openS t b).1.b) ∧ Below W.heap.size W w') :
  Calls Tryz.prog 5 #[vt, vb] w fun e w' => e = .returned (.bool true) ∧ Below w.heap.size w w' := by
 have HT : Hid (Sh w vt t) := hst
 have HSB : Hid (Sl w vb (bs b)) := hb
 have HBY : Hid (Byt b) := hby
 unfold maxLen at *
 obtain ⟨ao0, cap0, rfl, hc0⟩ := hst.form
 obtain ⟨ao1, cap1, rfl, hc1⟩ := hb.form
 simp only [bs_len] at *
 clear hst hb hby
 have B0 : Hid (Below w.heap.size w w) := Below.refl _ _
 by_cases hbig : 1048576 < b.length
 ·
  have d1 : (1048576 : Int) < (b.length : Int) := by omega
  clear iF
  go_enter Tryz.func5, Tryz.ntmps5
  go_wp2
  go_ret
  exact ⟨rfl, Below.refl _ _⟩
 have d1 : ¬ (1048576 : Int) < (b.length : Int) := by omega
 have hbl : b.length ≤ 1048576 := by omega
 go_enter Tryz.func5, Tryz.ntmps5
 go_wp2_with fail
 refine (sz_heads w _ t 1048576 (HT.out.later B0.out) (fun n hn => y0 n hn) m0 (by omega)).mono ?_
 rintro e W1 ⟨⟨q0, rfl, hq1, hq0⟩, b1⟩
 have z1 : w.heap.size ≤ W1.heap.size := b1.size
 have B1 : Hid (Below w.heap.size w W1) := B0.out.trans (b1.mono B0.out.size)
 by_cases hqn : q0 < 0
 ·
  go_wp2
  go_ret
  exact ⟨rfl, B1.out⟩
 have hfit : 0 ≤ q0 ∧ t.length ≤ 1048576 ∧ ∀ n ∈ t, n.r.size ≤ 1048576 := by rcases hq0 with h | ⟨h1, h2, h3⟩; exact absurd h hqn; exact ⟨h1, by omega, fun n hn => Nat.le_trans (h3 n hn) (by omega)⟩
 obtain ⟨hq2, htl, htz⟩ := hfit
 clear hq0
 have q1 : ∀ W v1 v2, Sh W v1 t → Sl W v2 (bs b) → _ := fun W v1 v2 h1 h2 => open_any W v1 v2 t b _ h1 h2 HBY.out (by omega) (by omega) rfl
 have q2 : ∀ W v1 v2, Below w.heap.size w W → Sh W v1 t → Sl W v2 (bs b) → _ := fun W v1 v2 hB h1 h2 => iF W v1 v2 hB h1 h2 htl htz hbl
 have q3 : ∀ W, Below w.heap.size w W → _ := fun W hW => to_heads W _ t (HT.out.later hW) (by omega)
 obtain ⟨z1, z2, z3⟩ := openS_len t HBY.out
 obtain ⟨E, hE⟩ : ∃ E, openS t b = E := ⟨_, rfl⟩
 simp only [hE] at q1 q2 z1 z2 z3
 obtain ⟨⟨l, h, c, s⟩, n⟩ := E
 simp only at q1 q2 z1 z2 z3
 clear hE iF htz y0
 go_wp2_with fail
 refine (q3 W1 B1.out).mono ?_
 rintro e W2 ⟨v_t, rfl, o_t2, b2⟩
 have z2 : W1.heap.size ≤ W2.heap.size := b2.size
 have B2 : Hid (Below w.heap.size w W2) := B1.out.trans (b2.mono B1.out.size)
 have f_t2 : Hid (Ohx W2 W1.heap.size W2.heap.size v_t t) := ⟨o_t2, Nat.le_refl _⟩
 clear o_t2
 go_wp2_with fail
 refine (to_any W2 _ b (HSB.out.later B2.out) (by omega)).mono ?_
 rintro e W3 ⟨v_tb, rfl, o_tb3, b3⟩
 obtain ⟨ao_tb, L_tb, cap_tb, rfl, hL_tb, hM_tb⟩ := o_tb3.form
 have o_tb3 : Hid (Own W3 W2.heap.size W3.heap.size 5 (.slice ao_tb L_tb cap_tb) (bs b)) := o_tb3
 clear hL_tb hM_tb
 have z3 : W2.heap.size ≤ W3.heap.size := b3.size
 have B3 : Hid (Below w.heap.size w W3) := B2.out.trans (b3.mono B2.out.size)
 have f_t3 : Hid (Ohx W3 W1.heap.size W2.heap.size v_t t) := Ohx.later f_t2.out b3
 clear f_t2
 go_wp2_with fail
 refine (q1 W3 _ _ f_t3.out.1.sh o_tb3.out.sl).mono ?_
 rintro e W4 ⟨v_m, v_mp, rfl, o_m4, o_mp4, b4⟩
 obtain ⟨lo_m, hi_m, lo_mp, hi_mp, d1_m, d2_m, d3_m, d4_m, d5_m, d6_m, d7_m, oo_m, oo_mp⟩ := Sr.pairN o_m4 o_mp4 b4.size
 clear o_m4 o_mp4
 obtain ⟨ao_m, L_m, cap_m, rfl, _, _⟩ := oo_m.form
 obtain ⟨ao_mp, L_mp, cap_mp, rfl, _, _⟩ := oo_mp.form
 have o_m4 : Hid (Own W4 lo_m hi_m 9 (.slice ao_m L_m cap_m) (ss l)) := oo_m
 have o_mp4 : Hid (Own W4 lo_mp hi_mp 5 (.slice ao_mp L_mp cap_mp) (bs c)) := oo_mp
 clear oo_m oo_mp
 have B4 : Hid (Below w.heap.size w W4) := B3.out.trans (b4.mono B3.out.size)
 clear o_tb3
 clear f_t3
 obtain ⟨W5, HW5, b5, y5, hS5, r_w05⟩ : ∃ X, Hid ((W4.alloc (.cells #[.slice ao_m L_m cap_m, .int .i64 h.n, .string h.r, .slice ao_mp L_mp cap_mp, .int .i64 s] 39)) = X) ∧ Below W4.heap.size W4 X ∧ W4.heap.size + 1 ≤ X.heap.size ∧ Hid (X.heap.size = W4.heap.size + 1) ∧ Hid (X.heap[W4.heap.size]? = some (.cells #[.slice ao_m L_m cap_m, .int .i64 h.n, .string h.r, .slice ao_mp L_mp cap_mp, .int .i64 s] 39 (0, 0))) := ⟨_, rfl, ((Below.refl _ _).alloc (Nat.le_refl _) _), by simp, by show _ = _; simp, (by show _ = _; exact alloc_nth1_0 W4 _)⟩
 have B5 : Hid (Below w.heap.size w W5) := B4.out.trans (b5.mono B4.out.size)
 have o_m5 : Hid (Own W5 (lo_m) (hi_m) 9 (.slice ao_m L_m cap_m) (ss l)) := Own.later o_m4.out b5 (by omega)
 have o_mp5 : Hid (Own W5 (lo_mp) (hi_mp) 5 (.slice ao_mp L_mp cap_mp) (bs c)) := Own.later o_mp4.out b5 (by omega)
 clear o_m4 o_mp4
 go_wp2_with fail
 rw [HW5.out]
 refine (q3 W5 B5.out).mono ?_
 rintro e W6 ⟨v_x, rfl, o_x6, b6⟩
 have z6 : W5.heap.size ≤ W6.heap.size := b6.size
 have B6 : Hid (Below w.heap.size w W6) := B5.out.trans (b6.mono B5.out.size)
 have r_w06 : Hid (W6.heap[W4.heap.size]? = some (.cells #[.slice ao_m L_m cap_m, .int .i64 h.n, .string h.r, .slice ao_mp L_mp cap_mp, .int .i64 s] 39 (0, 0))) := rowKeep r_w05.out b6
 have o_m6 : Hid (Own W6 (lo_m) (hi_m) 9 (.slice ao_m L_m cap_m) (ss l)) := Own.later o_m5.out b6 (by omega)
 have o_mp6 : Hid (Own W6 (lo_mp) (hi_mp) 5 (.slice ao_mp L_mp cap_mp) (bs c)) := Own.later o_mp5.out b6 (by omega)
 clear r_w05 o_m5 o_mp5
 have f_x6 : Hid (Ohx W6 W5.heap.size W6.heap.size v_x t) := ⟨o_x6, Nat.le_refl _⟩
 clear o_x6
 go_wp2_with fail
 refine (to_any W6 _ b (HSB.out.later B6.out) (by omega)).mono ?_
 rintro e W7 ⟨v_xb, rfl, o_xb7, b7⟩
 obtain ⟨ao_xb, L_xb, cap_xb, rfl, hL_xb, hM_xb⟩ := o_xb7.form
 have o_xb7 : Hid (Own W7 W6.heap.size W7.heap.size 5 (.slice ao_xb L_xb cap_xb) (bs b)) := o_xb7
 clear hL_xb hM_xb
 have z7 : W6.heap.size ≤ W7.heap.size := b7.size
 have B7 : Hid (Below w.heap.size w W7) := B6.out.trans (b7.mono B6.out.size)
 have r_w07 : Hid (W7.heap[W4.heap.size]? = some (.cells #[.slice ao_m L_m cap_m, .int .i64 h.n, .string h.r, .slice ao_mp L_mp cap_mp, .int .i64 s] 39 (0, 0))) := rowKeep r_w06.out b7
 have o_m7 : Hid (Own W7 (lo_m) (hi_m) 9 (.slice ao_m L_m cap_m) (ss l)) := Own.later o_m6.out b7 (by omega)
 have o_mp7 : Hid (Own W7 (lo_mp) (hi_mp) 5 (.slice ao_mp L_mp cap_mp) (bs c)) := Own.later o_mp6.out b7 (by omega)
 clear r_w06 o_m6 o_mp6
 have f_x7 : Hid (Ohx W7 W5.heap.size W6.heap.size v_x t) := Ohx.later f_x6.out b7
 clear f_x6
 go_wp2_with fail
 refine (q2 W7 _ _ B7.out f_x7.out.1.sh o_xb7.out.sl).mono ?_
 rintro e W8 ⟨v_g, v_gp, rfl, o_g8, o_gp8, b8⟩
 obtain ⟨lo_g, hi_g, lo_gp, hi_gp, d1_g, d2_g, d3_g, d4_g, d5_g, d6_g, d7_g, oo_g, oo_gp⟩ := Sr.pairN o_g8 o_gp8 b8.size
 clear o_g8 o_gp8
 obtain ⟨ao_g, L_g, cap_g, rfl, _, _⟩ := oo_g.form
 obtain ⟨ao_gp, L_gp, cap_gp, rfl, _, _⟩ := oo_gp.form
 have o_g8 : Hid (Own W8 lo_g hi_g 9 (.slice ao_g L_g cap_g) (ss l)) := oo_g
 have o_gp8 : Hid (Own W8 lo_gp hi_gp 5 (.slice ao_gp L_gp cap_gp) (bs c)) := oo_gp
 clear oo_g oo_gp
 have z8 : W7.heap.size ≤ W8.heap.size := b8.size
 have B8 : Hid (Below w.heap.size w W8) := B7.out.trans (b8.mono B7.out.size)
 have r_w08 : Hid (W8.heap[W4.heap.size]? = some (.cells #[.slice ao_m L_m cap_m, .int .i64 h.n, .string h.r, .slice ao_mp L_mp cap_mp, .int .i64 s] 39 (0, 0))) := rowKeep r_w07.out b8
 have o_m8 : Hid (Own W8 (lo_m) (hi_m) 9 (.slice ao_m L_m cap_m) (ss l)) := Own.later o_m7.out b8 (by omega)
 have o_mp8 : Hid (Own W8 (lo_mp) (hi_mp) 5 (.slice ao_mp L_mp cap_mp) (bs c)) := Own.later o_mp7.out b8 (by omega)
 have o_xb8 : Hid (Own W8 (W6.heap.size) (W7.heap.size) 5 (.slice ao_xb L_xb cap_xb) (bs b)) := Own.later o_xb7.out b8 (by omega)
 have c_w08_0 : W8.cell? ⟨W4.heap.size, 0, none⟩ = some (.slice ao_m L_m cap_m) := row_at r_w08.out 0
 have c_w08_1 : W8.cell? ⟨W4.heap.size, 1, none⟩ = some (.int .i64 h.n) := row_at r_w08.out 1
 have c_w08_2 : W8.cell? ⟨W4.heap.size, 2, none⟩ = some (.string h.r) := row_at r_w08.out 2
 have c_w08_3 : W8.cell? ⟨W4.heap.size, 3, none⟩ = some (.slice ao_mp L_mp cap_mp) := row_at r_w08.out 3
 have c_w08_4 : W8.cell? ⟨W4.heap.size, 4, none⟩ = some (.int .i64 s) := row_at r_w08.out 4
 clear r_w07 o_m7 o_mp7 o_xb7
 have f_x8 : Hid (Ohx W8 W5.heap.size W6.heap.size v_x t) := Ohx.later f_x7.out b8
 clear f_x7
 have a_w08_0 : ∀ o, (W8.alloc o).cell? ⟨W4.heap.size, 0, none⟩ = some (.slice ao_m L_m cap_m) := fun o => keepR c_w08_0 ((Below.refl _ _).alloc (Nat.le_refl _) o)
 have a_w08_1 : ∀ o, (W8.alloc o).cell? ⟨W4.heap.size, 1, none⟩ = some (.int .i64 h.n) := fun o => keepR c_w08_1 ((Below.refl _ _).alloc (Nat.le_refl _) o)
 have a_w08_2 : ∀ o, (W8.alloc o).cell? ⟨W4.heap.size, 2, none⟩ = some (.string h.r) := fun o => keepR c_w08_2 ((Below.refl _ _).alloc (Nat.le_refl _) o)
 have a_w08_3 : ∀ o, (W8.alloc o).cell? ⟨W4.heap.size, 3, none⟩ = some (.slice ao_mp L_mp cap_mp) := fun o => keepR c_w08_3 ((Below.refl _ _).alloc (Nat.le_refl _) o)
 have a_w08_4 : ∀ o, (W8.alloc o).cell? ⟨W4.heap.size, 4, none⟩ = some (.int .i64 s) := fun o => keepR c_w08_4 ((Below.refl _ _).alloc (Nat.le_refl _) o)
 obtain ⟨W9, HW9, b9, y9, hS9, r_g09⟩ : ∃ X, Hid ((W8.alloc (.cells #[.slice ao_g L_g cap_g, .int .i64 h.n, .string h.r, .slice ao_gp L_gp cap_gp, .int .i64 s] 39)) = X) ∧ Below W8.heap.size W8 X ∧ W8.heap.size + 1 ≤ X.heap.size ∧ Hid (X.heap.size = W8.heap.size + 1) ∧ Hid (X.heap[W8.heap.size]? = some (.cells #[.slice ao_g L_g cap_g, .int .i64 h.n, .string h.r, .slice ao_gp L_gp cap_gp, .int .i64 s] 39 (0, 0))) := ⟨_, rfl, ((Below.refl _ _).alloc (Nat.le_refl _) _), by simp, by show _ = _; simp, (by show _ = _; exact alloc_nth1_0 W8 _)⟩
 have B9 : Hid (Below w.heap.size w W9) := B8.out.trans (b9.mono B8.out.size)
 have r_w09 : Hid (W9.heap[W4.heap.size]? = some (.cells #[.slice ao_m L_m cap_m, .int .i64 h.n, .string h.r, .slice ao_mp L_mp cap_mp, .int .i64 s] 39 (0, 0))) := rowKeep r_w08.out b9
 have o_m9 : Hid (Own W9 (lo_m) (hi_m) 9 (.slice ao_m L_m cap_m) (ss l)) := Own.later o_m8.out b9 (by omega)
 have o_mp9 : Hid (Own W9 (lo_mp) (hi_mp) 5 (.slice ao_mp L_mp cap_mp) (bs c)) := Own.later o_mp8.out b9 (by omega)
 have o_xb9 : Hid (Own W9 (W6.heap.size) (W7.heap.size) 5 (.slice ao_xb L_xb cap_xb) (bs b)) := Own.later o_xb8.out b9 (by omega)
 have o_g9 : Hid (Own W9 (lo_g) (hi_g) 9 (.slice ao_g L_g cap_g) (ss l)) := Own.later o_g8.out b9 (by omega)
 have o_gp9 : Hid (Own W9 (lo_gp) (hi_gp) 5 (.slice ao_gp L_gp cap_gp) (bs c)) := Own.later o_gp8.out b9 (by omega)
 clear r_w08 c_w08_0 c_w08_1 c_w08_2 c_w08_3 c_w08_4 o_m8 o_mp8 o_xb8 o_g8 o_gp8
 have f_x9 : Hid (Ohx W9 W5.heap.size W6.heap.size v_x t) := Ohx.later f_x8.out b9
 clear f_x8
 go_wp2_with fail
 rw [HW9.out]
 clear a_w08_0 a_w08_1 a_w08_2 a_w08_3 a_w08_4
 refine (eq_store W9 _ _ _ _ l h c s o_g9.out.sl o_m9.out.sl o_gp9.out.sl o_mp9.out.sl (by omega) (by omega)).mono ?_
 rintro e W10 ⟨rfl, b10⟩
 have z10 : W9.heap.size ≤ W10.heap.size := b10.size
 have B10 : Hid (Below w.heap.size w W10) := B9.out.trans (b10.mono B9.out.size)
 have r_w010 : Hid (W10.heap[W4.heap.size]? = some (.cells #[.slice ao_m L_m cap_m, .int .i64 h.n, .string h.r, .slice ao_mp L_mp cap_mp, .int .i64 s] 39 (0, 0))) := rowKeep r_w09.out b10
 have r_g010 : Hid (W10.heap[W8.heap.size]? = some (.cells #[.slice ao_g L_g cap_g, .int .i64 h.n, .string h.r, .slice ao_gp L_gp cap_gp, .int .i64 s] 39 (0, 0))) := rowKeep r_g09.out b10
 have o_m10 : Hid (Own W10 (lo_m) (hi_m) 9 (.slice ao_m L_m cap_m) (ss l)) := Own.later o_m9.out b10 (by omega)
 have o_mp10 : Hid (Own W10 (lo_mp) (hi_mp) 5 (.slice ao_mp L_mp cap_mp) (bs c)) := Own.later o_mp9.out b10 (by omega)
 have o_xb10 : Hid (Own W10 (W6.heap.size) (W7.heap.size) 5 (.slice ao_xb L_xb cap_xb) (bs b)) := Own.later o_xb9.out b10 (by omega)
 have o_g10 : Hid (Own W10 (lo_g) (hi_g) 9 (.slice ao_g L_g cap_g) (ss l)) := Own.later o_g9.out b10 (by omega)
 have o_gp10 : Hid (Own W10 (lo_gp) (hi_gp) 5 (.slice ao_gp L_gp cap_gp) (bs c)) := Own.later o_gp9.out b10 (by omega)
 clear r_w09 r_g09 o_m9 o_mp9 o_xb9 o_g9 o_gp9
 have f_x10 : Hid (Ohx W10 W5.heap.size W6.heap.size v_x t) := Ohx.later f_x9.out b10
 clear f_x9
 go_wp2_with fail
 refine (q3 W10 B10.out).mono ?_
 rintro e W11 ⟨v_u, rfl, o_u11, b11⟩
 have z11 : W10.heap.size ≤ W11.heap.size := b11.size
 have B11 : Hid (Below w.heap.size w W11) := B10.out.trans (b11.mono B10.out.size)
 have r_w011 : Hid (W11.heap[W4.heap.size]? = some (.cells #[.slice ao_m L_m cap_m, .int .i64 h.n, .string h.r, .slice ao_mp L_mp cap_mp, .int .i64 s] 39 (0, 0))) := rowKeep r_w010.out b11
 have r_g011 : Hid (W11.heap[W8.heap.size]? = some (.cells #[.slice ao_g L_g cap_g, .int .i64 h.n, .string h.r, .slice ao_gp L_gp cap_gp, .int .i64 s] 39 (0, 0))) := rowKeep r_g010.out b11
 have o_m11 : Hid (Own W11 (lo_m) (hi_m) 9 (.slice ao_m L_m cap_m) (ss l)) := Own.later o_m10.out b11 (by omega)
 have o_mp11 : Hid (Own W11 (lo_mp) (hi_mp) 5 (.slice ao_mp L_mp cap_mp) (bs c)) := Own.later o_mp10.out b11 (by omega)
 have o_xb11 : Hid (Own W11 (W6.heap.size) (W7.heap.size) 5 (.slice ao_xb L_xb cap_xb) (bs b)) := Own.later o_xb10.out b11 (by omega)
 have o_g11 : Hid (Own W11 (lo_g) (hi_g) 9 (.slice ao_g L_g cap_g) (ss l)) := Own.later o_g10.out b11 (by omega)
 have o_gp11 : Hid (Own W11 (lo_gp) (hi_gp) 5 (.slice ao_gp L_gp cap_gp) (bs c)) := Own.later o_gp10.out b11 (by omega)
 clear r_w010 r_g010 o_m10 o_mp10 o_xb10 o_g10 o_gp10
 have f_x11 : Hid (Ohx W11 W5.heap.size W6.heap.size v_x t) := Ohx.later f_x10.out b11
 clear f_x10
 have f_u11 : Hid (Ohx W11 W10.heap.size W11.heap.size v_u t) := ⟨o_u11, Nat.le_refl _⟩
 clear o_u11
 go_wp2_with fail
 refine (eq_heads W11 v_x v_u t f_x11.out.1.sh f_u11.out.1.sh (by omega)).mono ?_
 rintro e W12 ⟨rfl, b12⟩
 have z12 : W11.heap.size ≤ W12.heap.size := b12.size
 have B12 : Hid (Below w.heap.size w W12) := B11.out.trans (b12.mono B11.out.size)
 have r_w012 : Hid (W12.heap[W4.heap.size]? = some (.cells #[.slice ao_m L_m cap_m, .int .i64 h.n, .string h.r, .slice ao_mp L_mp cap_mp, .int .i64 s] 39 (0, 0))) := rowKeep r_w011.out b12
 have r_g012 : Hid (W12.heap[W8.heap.size]? = some (.cells #[.slice ao_g L_g cap_g, .int .i64 h.n, .string h.r, .slice ao_gp L_gp cap_gp, .int .i64 s] 39 (0, 0))) := rowKeep r_g011.out b12
 have o_m12 : Hid (Own W12 (lo_m) (hi_m) 9 (.slice ao_m L_m cap_m) (ss l)) := Own.later o_m11.out b12 (by omega)
 have o_mp12 : Hid (Own W12 (lo_mp) (hi_mp) 5 (.slice ao_mp L_mp cap_mp) (bs c)) := Own.later o_mp11.out b12 (by omega)
 have o_xb12 : Hid (Own W12 (W6.heap.size) (W7.heap.size) 5 (.slice ao_xb L_xb cap_xb) (bs b)) := Own.later o_xb11.out b12 (by omega)
 have o_g12 : Hid (Own W12 (lo_g) (hi_g) 9 (.slice ao_g L_g cap_g) (ss l)) := Own.later o_g11.out b12 (by omega)
 have o_gp12 : Hid (Own W12 (lo_gp) (hi_gp) 5 (.slice ao_gp L_gp cap_gp) (bs c)) := Own.later o_gp11.out b12 (by omega)
 clear r_w011 r_g011 o_m11 o_mp11 o_xb11 o_g11 o_gp11
 have f_x12 : Hid (Ohx W12 W5.heap.size W6.heap.size v_x t) := Ohx.later f_x11.out b12
 clear f_x11 f_u11
 go_wp2_with fail
 refine (to_any W12 _ b (HSB.out.later B12.out) (by omega)).mono ?_
 rintro e W13 ⟨v_ub, rfl, o_ub13, b13⟩
 obtain ⟨ao_ub, L_ub, cap_ub, rfl, hL_ub, hM_ub⟩ := o_ub13.form
 have o_ub13 : Hid (Own W13 W12.heap.size W13.heap.size 5 (.slice ao_ub L_ub cap_ub) (bs b)) := o_ub13
 clear hL_ub hM_ub
 have z13 : W12.heap.size ≤ W13.heap.size := b13.size
 have B13 : Hid (Below w.heap.size w W13) := B12.out.trans (b13.mono B12.out.size)
 have r_w013 : Hid (W13.heap[W4.heap.size]? = some (.cells #[.slice ao_m L_m cap_m, .int .i64 h.n, .string h.r, .slice ao_mp L_mp cap_mp, .int .i64 s] 39 (0, 0))) := rowKeep r_w012.out b13
 have r_g013 : Hid (W13.heap[W8.heap.size]? = some (.cells #[.slice ao_g L_g cap_g, .int .i64 h.n, .string h.r, .slice ao_gp L_gp cap_gp, .int .i64 s] 39 (0, 0))) := rowKeep r_g012.out b13
 have o_m13 : Hid (Own W13 (lo_m) (hi_m) 9 (.slice ao_m L_m cap_m) (ss l)) := Own.later o_m12.out b13 (by omega)
 have o_mp13 : Hid (Own W13 (lo_mp) (hi_mp) 5 (.slice ao_mp L_mp cap_mp) (bs c)) := Own.later o_mp12.out b13 (by omega)
 have o_xb13 : Hid (Own W13 (W6.heap.size) (W7.heap.size) 5 (.slice ao_xb L_xb cap_xb) (bs b)) := Own.later o_xb12.out b13 (by omega)
 have o_g13 : Hid (Own W13 (lo_g) (hi_g) 9 (.slice ao_g L_g cap_g) (ss l)) := Own.later o_g12.out b13 (by omega)
 have o_gp13 : Hid (Own W13 (lo_gp) (hi_gp) 5 (.slice ao_gp L_gp cap_gp) (bs c)) := Own.later o_gp12.out b13 (by omega)
 clear r_w012 r_g012 o_m12 o_mp12 o_xb12 o_g12 o_gp12
 have f_x13 : Hid (Ohx W13 W5.heap.size W6.heap.size v_x t) := Ohx.later f_x12.out b13
 clear f_x12
 go_wp2_with fail
 refine (eq_true W13 _ _ b o_xb13.out.sl o_ub13.out.sl (by omega)).mono ?_
 rintro e W14 ⟨rfl, h14, _⟩
 have b14 : Below W13.heap.size W13 W14 := h14 _
 clear h14
 have B14 : Hid (Below w.heap.size w W14) := B13.out.trans (b14.mono B13.out.size)
 have r_w014 : Hid (W14.heap[W4.heap.size]? = some (.cells #[.slice ao_m L_m cap_m, .int .i64 h.n, .string h.r, .slice ao_mp L_mp cap_mp, .int .i64 s] 39 (0, 0))) := rowKeep r_w013.out b14
 have r_g014 : Hid (W14.heap[W8.heap.size]? = some (.cells #[.slice ao_g L_g cap_g, .int .i64 h.n, .string h.r, .slice ao_gp L_gp cap_gp, .int .i64 s] 39 (0, 0))) := rowKeep r_g013.out b14
 have o_m14 : Hid (Own W14 (lo_m) (hi_m) 9 (.slice ao_m L_m cap_m) (ss l)) := Own.later o_m13.out b14 (by omega)
 have o_mp14 : Hid (Own W14 (lo_mp) (hi_mp) 5 (.slice ao_mp L_mp cap_mp) (bs c)) := Own.later o_mp13.out b14 (by omega)
 have o_xb14 : Hid (Own W14 (W6.heap.size) (W7.heap.size) 5 (.slice ao_xb L_xb cap_xb) (bs b)) := Own.later o_xb13.out b14 (by omega)
 have o_g14 : Hid (Own W14 (lo_g) (hi_g) 9 (.slice ao_g L_g cap_g) (ss l)) := Own.later o_g13.out b14 (by omega)
 have o_gp14 : Hid (Own W14 (lo_gp) (hi_gp) 5 (.slice ao_gp L_gp cap_gp) (bs c)) := Own.later o_gp13.out b14 (by omega)
 clear r_w013 r_g013 o_m13 o_mp13 o_xb13 o_g13 o_gp13 o_ub13
 have f_x14 : Hid (Ohx W14 W5.heap.size W6.heap.size v_x t) := Ohx.later f_x13.out b14
 clear f_x13
 obtain ⟨K1, HK1⟩ : ∃ K1 : Nat, Hid (1 + 2 * t.length = K1) := ⟨_, rfl⟩
 have hK1 : 1 ≤ K1 ∧ K1 ≤ 10000000 := by have := HK1.out; omega
 have qm := mark_heads W14 v_x (W5.heap.size) (W6.heap.size) t 1 f_x14.out.1 (by omega) (by omega) (by omega) (by omega)
 rw [HK1.out] at qm
 go_wp2_with fail
 refine (qm).mono ?_
 rintro e W15 ⟨rfl, m15, p15⟩
 have z15 : W14.heap.size ≤ W15.heap.size := p15.size
 have B15 : Hid (Below w.heap.size w W15) := B14.out.trans (p15.below (by have := B14.out.size; omega) B14.out.size)
 have r_w015 : Hid (W15.heap[W4.heap.size]? = some (.cells #[.slice ao_m L_m cap_m, .int .i64 h.n, .string h.r, .slice ao_mp L_mp cap_mp, .int .i64 s] 39 (0, 0))) := (p15.block (W4.heap.size) (by omega) (by omega)).trans r_w014.out
 have r_g015 : Hid (W15.heap[W8.heap.size]? = some (.cells #[.slice ao_g L_g cap_g, .int .i64 h.n, .string h.r, .slice ao_gp L_gp cap_gp, .int .i64 s] 39 (0, 0))) := (p15.block (W8.heap.size) (by omega) (by omega)).trans r_g014.out
 have o_m15 : Hid (Own W15 (lo_m) (hi_m) 9 (.slice ao_m L_m cap_m) (ss l)) := Own.apart o_m14.out p15 (by omega) (by omega)
 have o_mp15 : Hid (Own W15 (lo_mp) (hi_mp) 5 (.slice ao_mp L_mp cap_mp) (bs c)) := Own.apart o_mp14.out p15 (by omega) (by omega)
 have o_xb15 : Hid (Own W15 (W6.heap.size) (W7.heap.size) 5 (.slice ao_xb L_xb cap_xb) (bs b)) := Own.apart o_xb14.out p15 (by omega) (by omega)
 have o_g15 : Hid (Own W15 (lo_g) (hi_g) 9 (.slice ao_g L_g cap_g) (ss l)) := Own.apart o_g14.out p15 (by omega) (by omega)
 have o_gp15 : Hid (Own W15 (lo_gp) (hi_gp) 5 (.slice ao_gp L_gp cap_gp) (bs c)) := Own.apart o_gp14.out p15 (by omega) (by omega)
 clear r_w014 r_g014 o_m14 o_mp14 o_xb14 o_g14 o_gp14
 clear f_x14 m15
 clear qm
 obtain ⟨K2, HK2⟩ : ∃ K2 : Nat, Hid (K1 + b.length = K2) := ⟨_, rfl⟩
 have hK2 : 1 ≤ K2 ∧ K2 ≤ 100000000 := by have := HK2.out; omega
 have dK2 : ¬ (K2 : Int) < 0 := by omega
 have qm := mark_bytes W15 (.slice ao_xb L_xb cap_xb) (W6.heap.size) (W7.heap.size) b K1 o_xb15.out (by omega) (by omega)
 rw [HK2.out] at qm
 go_wp2_with fail
 refine (qm).mono ?_
 rintro e W16 ⟨rfl, o_xb16, p16⟩
 have z16 : W15.heap.size ≤ W16.heap.size := p16.size
 have B16 : Hid (Below w.heap.size w W16) := B15.out.trans (p16.below (by have := B15.out.size; omega) B15.out.size)
 have r_w016 : Hid (W16.heap[W4.heap.size]? = some (.cells #[.slice ao_m L_m cap_m, .int .i64 h.n, .string h.r, .slice ao_mp L_mp cap_mp, .int .i64 s] 39 (0, 0))) := (p16.block (W4.heap.size) (by omega) (by omega)).trans r_w015.out
 have r_g016 : Hid (W16.heap[W8.heap.size]? = some (.cells #[.slice ao_g L_g cap_g, .int .i64 h.n, .string h.r, .slice ao_gp L_gp cap_gp, .int .i64 s] 39 (0, 0))) := (p16.block (W8.heap.size) (by omega) (by omega)).trans r_g015.out
 have o_m16 : Hid (Own W16 (lo_m) (hi_m) 9 (.slice ao_m L_m cap_m) (ss l)) := Own.apart o_m15.out p16 (by omega) (by omega)
 have o_mp16 : Hid (Own W16 (lo_mp) (hi_mp) 5 (.slice ao_mp L_mp cap_mp) (bs c)) := Own.apart o_mp15.out p16 (by omega) (by omega)
 have o_g16 : Hid (Own W16 (lo_g) (hi_g) 9 (.slice ao_g L_g cap_g) (ss l)) := Own.apart o_g15.out p16 (by omega) (by omega)
 have o_gp16 : Hid (Own W16 (lo_gp) (hi_gp) 5 (.slice ao_gp L_gp cap_gp) (bs c)) := Own.apart o_gp15.out p16 (by omega) (by omega)
 have c_w016_0 : W16.cell? ⟨W4.heap.size, 0, none⟩ = some (.slice ao_m L_m cap_m) := row_at r_w016.out 0
 have c_w016_1 : W16.cell? ⟨W4.heap.size, 1, none⟩ = some (.int .i64 h.n) := row_at r_w016.out 1
 have c_w016_2 : W16.cell? ⟨W4.heap.size, 2, none⟩ = some (.string h.r) := row_at r_w016.out 2
 have c_w016_3 : W16.cell? ⟨W4.heap.size, 3, none⟩ = some (.slice ao_mp L_mp cap_mp) := row_at r_w016.out 3
 have c_w016_4 : W16.cell? ⟨W4.heap.size, 4, none⟩ = some (.int .i64 s) := row_at r_w016.out 4
 have c_g016_0 : W16.cell? ⟨W8.heap.size, 0, none⟩ = some (.slice ao_g L_g cap_g) := row_at r_g016.out 0
 have c_g016_1 : W16.cell? ⟨W8.heap.size, 1, none⟩ = some (.int .i64 h.n) := row_at r_g016.out 1
 have c_g016_2 : W16.cell? ⟨W8.heap.size, 2, none⟩ = some (.string h.r) := row_at r_g016.out 2
 have c_g016_3 : W16.cell? ⟨W8.heap.size, 3, none⟩ = some (.slice ao_gp L_gp cap_gp) := row_at r_g016.out 3
 have c_g016_4 : W16.cell? ⟨W8.heap.size, 4, none⟩ = some (.int .i64 s) := row_at r_g016.out 4
 clear r_w015 r_g015 o_m15 o_mp15 o_xb15 o_g15 o_gp15
 clear qm
 go_wp2_with fail
 refine (eq_store W16 _ _ _ _ l h c s o_g16.out.sl o_m16.out.sl o_gp16.out.sl o_mp16.out.sl (by omega) (by omega)).mono ?_
 rintro e W17 ⟨rfl, b17⟩
 have z17 : W16.heap.size ≤ W17.heap.size := b17.size
 have B17 : Hid (Below w.heap.size w W17) := B16.out.trans (b17.mono B16.out.size)
 have r_w017 : Hid (W17.heap[W4.heap.size]? = some (.cells #[.slice ao_m L_m cap_m, .int .i64 h.n, .string h.r, .slice ao_mp L_mp cap_mp, .int .i64 s] 39 (0, 0))) := rowKeep r_w016.out b17
 have r_g017 : Hid (W17.heap[W8.heap.size]? = some (.cells #[.slice ao_g L_g cap_g, .int .i64 h.n, .string h.r, .slice ao_gp L_gp cap_gp, .int .i64 s] 39 (0, 0))) := rowKeep r_g016.out b17
 have o_m17 : Hid (Own W17 (lo_m) (hi_m) 9 (.slice ao_m L_m cap_m) (ss l)) := Own.later o_m16.out b17 (by omega)
 have o_mp17 : Hid (Own W17 (lo_mp) (hi_mp) 5 (.slice ao_mp L_mp cap_mp) (bs c)) := Own.later o_mp16.out b17 (by omega)
 have o_g17 : Hid (Own W17 (lo_g) (hi_g) 9 (.slice ao_g L_g cap_g) (ss l)) := Own.later o_g16.out b17 (by omega)
 have o_gp17 : Hid (Own W17 (lo_gp) (hi_gp) 5 (.slice ao_gp L_gp cap_gp) (bs c)) := Own.later o_gp16.out b17 (by omega)
 have c_g017_0 : W17.cell? ⟨W8.heap.size, 0, none⟩ = some (.slice ao_g L_g cap_g) := row_at r_g017.out 0
 have c_g017_1 : W17.cell? ⟨W8.heap.size, 1, none⟩ = some (.int .i64 h.n) := row_at r_g017.out 1
 have c_g017_2 : W17.cell? ⟨W8.heap.size, 2, none⟩ = some (.string h.r) := row_at r_g017.out 2
 have c_g017_3 : W17.cell? ⟨W8.heap.size, 3, none⟩ = some (.slice ao_gp L_gp cap_gp) := row_at r_g017.out 3
 have c_g017_4 : W17.cell? ⟨W8.heap.size, 4, none⟩ = some (.int .i64 s) := row_at r_g017.out 4
 clear r_w016 c_w016_0 c_w016_1 c_w016_2 c_w016_3 c_w016_4 r_g016 c_g016_0 c_g016_1 c_g016_2 c_g016_3 c_g016_4 o_m16 o_mp16 o_g16 o_gp16
 go_wp2_with fail
 refine (mark_store W17 h _ _ s _ _ _ _ l c 1 o_g17.out o_gp17.out (by omega) (by omega) (by omega) (by omega) (by omega) (by omega) (by omega)).mono ?_
 rintro e W18 ⟨rfl, o_g18, o_gp18, p18⟩
 have o_g18 : Hid (Own W18 (lo_g) (hi_g) 9 (.slice ao_g L_g cap_g) (ss (Strs.mts 1 l.length))) := o_g18
 have o_gp18 : Hid (Own W18 (lo_gp) (hi_gp) 5 (.slice ao_gp L_gp cap_gp) (bs (marks (1 + l.length) c.length))) := o_gp18
 have z18 : W17.heap.size ≤ W18.heap.size := p18.size
 have B18 : Hid (Below w.heap.size w W18) := B17.out.trans (p18.below (by have := B17.out.size; omega) (by have := B17.out.size; omega) B17.out.size)
 have r_w018 : Hid (W18.heap[W4.heap.size]? = some (.cells #[.slice ao_m L_m cap_m, .int .i64 h.n, .string h.r, .slice ao_mp L_mp cap_mp, .int .i64 s] 39 (0, 0))) := (p18.block (W4.heap.size) (by omega) (by omega) (by omega)).trans r_w017.out
 have r_g018 : Hid (W18.heap[W8.heap.size]? = some (.cells #[.slice ao_g L_g cap_g, .int .i64 h.n, .string h.r, .slice ao_gp L_gp cap_gp, .int .i64 s] 39 (0, 0))) := (p18.block (W8.heap.size) (by omega) (by omega) (by omega)).trans r_g017.out
 have o_m18 : Hid (Own W18 (lo_m) (hi_m) 9 (.slice ao_m L_m cap_m) (ss l)) := Sr.Own.apart2 o_m17.out p18 (by omega) (by omega) (by omega)
 have o_mp18 : Hid (Own W18 (lo_mp) (hi_mp) 5 (.slice ao_mp L_mp cap_mp) (bs c)) := Sr.Own.apart2 o_mp17.out p18 (by omega) (by omega) (by omega)
 have c_g018_0 : W18.cell? ⟨W8.heap.size, 0, none⟩ = some (.slice ao_g L_g cap_g) := row_at r_g018.out 0
 have c_g018_1 : W18.cell? ⟨W8.heap.size, 1, none⟩ = some (.int .i64 h.n) := row_at r_g018.out 1
 have c_g018_2 : W18.cell? ⟨W8.heap.size, 2, none⟩ = some (.string h.r) := row_at r_g018.out 2
 have c_g018_3 : W18.cell? ⟨W8.heap.size, 3, none⟩ = some (.slice ao_gp L_gp cap_gp) := row_at r_g018.out 3
 have c_g018_4 : W18.cell? ⟨W8.heap.size, 4, none⟩ = some (.int .i64 s) := row_at r_g018.out 4
 clear r_w017 r_g017 c_g017_0 c_g017_1 c_g017_2 c_g017_3 c_g017_4 o_m17 o_mp17 o_g17 o_gp17
 go_wp2_with fail
 refine (held_store W18 h _ _ s l.length c.length 1 o_g18.out.sl o_gp18.out.sl (by omega) (by omega) (by omega) (by omega)).mono ?_
 rintro e W19 ⟨rfl, b19⟩
 have z19 : W18.heap.size ≤ W19.heap.size := b19.size
 have B19 : Hid (Below w.heap.size w W19) := B18.out.trans (b19.mono B18.out.size)
 have r_w019 : Hid (W19.heap[W4.heap.size]? = some (.cells #[.slice ao_m L_m cap_m, .int .i64 h.n, .string h.r, .slice ao_mp L_mp cap_mp, .int .i64 s] 39 (0, 0))) := rowKeep r_w018.out b19
 have r_g019 : Hid (W19.heap[W8.heap.size]? = some (.cells #[.slice ao_g L_g cap_g, .int .i64 h.n, .string h.r, .slice ao_gp L_gp cap_gp, .int .i64 s] 39 (0, 0))) := rowKeep r_g018.out b19
 have o_m19 : Hid (Own W19 (lo_m) (hi_m) 9 (.slice ao_m L_m cap_m) (ss l)) := Own.later o_m18.out b19 (by omega)
 have o_mp19 : Hid (Own W19 (lo_mp) (hi_mp) 5 (.slice ao_mp L_mp cap_mp) (bs c)) := Own.later o_mp18.out b19 (by omega)
 have o_g19 : Hid (Own W19 (lo_g) (hi_g) 9 (.slice ao_g L_g cap_g) (ss (Strs.mts 1 l.length))) := Own.later o_g18.out b19 (by omega)
 have o_gp19 : Hid (Own W19 (lo_gp) (hi_gp) 5 (.slice ao_gp L_gp cap_gp) (bs (marks (1 + l.length) c.length))) := Own.later o_gp18.out b19 (by omega)
 clear r_w018 r_g018 c_g018_0 c_g018_1 c_g018_2 c_g018_3 c_g018_4 o_m18 o_mp18 o_g18 o_gp18
 go_wp2_with fail
 refine (q3 W19 B19.out).mono ?_
 rintro e W20 ⟨v_y, rfl, o_y20, b20⟩
 have z20 : W19.heap.size ≤ W20.heap.size := b20.size
 have B20 : Hid (Below w.heap.size w W20) := B19.out.trans (b20.mono B19.out.size)
 have r_w020 : Hid (W20.heap[W4.heap.size]? = some (.cells #[.slice ao_m L_m cap_m, .int .i64 h.n, .string h.r, .slice ao_mp L_mp cap_mp, .int .i64 s] 39 (0, 0))) := rowKeep r_w019.out b20
 have r_g020 : Hid (W20.heap[W8.heap.size]? = some (.cells #[.slice ao_g L_g cap_g, .int .i64 h.n, .string h.r, .slice ao_gp L_gp cap_gp, .int .i64 s] 39 (0, 0))) := rowKeep r_g019.out b20
 have o_m20 : Hid (Own W20 (lo_m) (hi_m) 9 (.slice ao_m L_m cap_m) (ss l)) := Own.later o_m19.out b20 (by omega)
 have o_mp20 : Hid (Own W20 (lo_mp) (hi_mp) 5 (.slice ao_mp L_mp cap_mp) (bs c)) := Own.later o_mp19.out b20 (by omega)
 have o_g20 : Hid (Own W20 (lo_g) (hi_g) 9 (.slice ao_g L_g cap_g) (ss (Strs.mts 1 l.length))) := Own.later o_g19.out b20 (by omega)
 have o_gp20 : Hid (Own W20 (lo_gp) (hi_gp) 5 (.slice ao_gp L_gp cap_gp) (bs (marks (1 + l.length) c.length))) := Own.later o_gp19.out b20 (by omega)
 clear r_w019 r_g019 o_m19 o_mp19 o_g19 o_gp19
 have f_y20 : Hid (Ohx W20 W19.heap.size W20.heap.size v_y t) := ⟨o_y20, Nat.le_refl _⟩
 clear o_y20
 go_wp2_with fail
 refine (to_any W20 _ b (HSB.out.later B20.out) (by omega)).mono ?_
 rintro e W21 ⟨v_yb, rfl, o_yb21, b21⟩
 obtain ⟨ao_yb, L_yb, cap_yb, rfl, hL_yb, hM_yb⟩ := o_yb21.form
 have o_yb21 : Hid (Own W21 W20.heap.size W21.heap.size 5 (.slice ao_yb L_yb cap_yb) (bs b)) := o_yb21
 clear hL_yb hM_yb
 have z21 : W20.heap.size ≤ W21.heap.size := b21.size
 have B21 : Hid (Below w.heap.size w W21) := B20.out.trans (b21.mono B20.out.size)
 have r_w021 : Hid (W21.heap[W4.heap.size]? = some (.cells #[.slice ao_m L_m cap_m, .int .i64 h.n, .string h.r, .slice ao_mp L_mp cap_mp, .int .i64 s] 39 (0, 0))) := rowKeep r_w020.out b21
 have r_g021 : Hid (W21.heap[W8.heap.size]? = some (.cells #[.slice ao_g L_g cap_g, .int .i64 h.n, .string h.r, .slice ao_gp L_gp cap_gp, .int .i64 s] 39 (0, 0))) := rowKeep r_g020.out b21
 have o_m21 : Hid (Own W21 (lo_m) (hi_m) 9 (.slice ao_m L_m cap_m) (ss l)) := Own.later o_m20.out b21 (by omega)
 have o_mp21 : Hid (Own W21 (lo_mp) (hi_mp) 5 (.slice ao_mp L_mp cap_mp) (bs c)) := Own.later o_mp20.out b21 (by omega)
 have o_g21 : Hid (Own W21 (lo_g) (hi_g) 9 (.slice ao_g L_g cap_g) (ss (Strs.mts 1 l.length))) := Own.later o_g20.out b21 (by omega)
 have o_gp21 : Hid (Own W21 (lo_gp) (hi_gp) 5 (.slice ao_gp L_gp cap_gp) (bs (marks (1 + l.length) c.length))) := Own.later o_gp20.out b21 (by omega)
 clear r_w020 r_g020 o_m20 o_mp20 o_g20 o_gp20
 have f_y21 : Hid (Ohx W21 W19.heap.size W20.heap.size v_y t) := Ohx.later f_y20.out b21
 clear f_y20
 go_wp2_with fail
 refine (q2 W21 _ _ B21.out f_y21.out.1.sh o_yb21.out.sl).mono ?_
 rintro e W22 ⟨v_h, v_hp, rfl, o_h22, o_hp22, b22⟩
 obtain ⟨lo_h, hi_h, lo_hp, hi_hp, d1_h, d2_h, d3_h, d4_h, d5_h, d6_h, d7_h, oo_h, oo_hp⟩ := Sr.pairN o_h22 o_hp22 b22.size
 clear o_h22 o_hp22
 obtain ⟨ao_h, L_h, cap_h, rfl, _, _⟩ := oo_h.form
 obtain ⟨ao_hp, L_hp, cap_hp, rfl, _, _⟩ := oo_hp.form
 have o_h22 : Hid (Own W22 lo_h hi_h 9 (.slice ao_h L_h cap_h) (ss l)) := oo_h
 have o_hp22 : Hid (Own W22 lo_hp hi_hp 5 (.slice ao_hp L_hp cap_hp) (bs c)) := oo_hp
 clear oo_h oo_hp
 have z22 : W21.heap.size ≤ W22.heap.size := b22.size
 have B22 : Hid (Below w.heap.size w W22) := B21.out.trans (b22.mono B21.out.size)
 have r_w022 : Hid (W22.heap[W4.heap.size]? = some (.cells #[.slice ao_m L_m cap_m, .int .i64 h.n, .string h.r, .slice ao_mp L_mp cap_mp, .int .i64 s] 39 (0, 0))) := rowKeep r_w021.out b22
 have r_g022 : Hid (W22.heap[W8.heap.size]? = some (.cells #[.slice ao_g L_g cap_g, .int .i64 h.n, .string h.r, .slice ao_gp L_gp cap_gp, .int .i64 s] 39 (0, 0))) := rowKeep r_g021.out b22
 have o_m22 : Hid (Own W22 (lo_m) (hi_m) 9 (.slice ao_m L_m cap_m) (ss l)) := Own.later o_m21.out b22 (by omega)
 have o_mp22 : Hid (Own W22 (lo_mp) (hi_mp) 5 (.slice ao_mp L_mp cap_mp) (bs c)) := Own.later o_mp21.out b22 (by omega)
 have o_g22 : Hid (Own W22 (lo_g) (hi_g) 9 (.slice ao_g L_g cap_g) (ss (Strs.mts 1 l.length))) := Own.later o_g21.out b22 (by omega)
 have o_gp22 : Hid (Own W22 (lo_gp) (hi_gp) 5 (.slice ao_gp L_gp cap_gp) (bs (marks (1 + l.length) c.length))) := Own.later o_gp21.out b22 (by omega)
 have c_w022_0 : W22.cell? ⟨W4.heap.size, 0, none⟩ = some (.slice ao_m L_m cap_m) := row_at r_w022.out 0
 have c_w022_1 : W22.cell? ⟨W4.heap.size, 1, none⟩ = some (.int .i64 h.n) := row_at r_w022.out 1
 have c_w022_2 : W22.cell? ⟨W4.heap.size, 2, none⟩ = some (.string h.r) := row_at r_w022.out 2
 have c_w022_3 : W22.cell? ⟨W4.heap.size, 3, none⟩ = some (.slice ao_mp L_mp cap_mp) := row_at r_w022.out 3
 have c_w022_4 : W22.cell? ⟨W4.heap.size, 4, none⟩ = some (.int .i64 s) := row_at r_w022.out 4
 clear r_w021 r_g021 o_m21 o_mp21 o_g21 o_gp21 o_yb21
 clear f_y21
 have a_w022_0 : ∀ o, (W22.alloc o).cell? ⟨W4.heap.size, 0, none⟩ = some (.slice ao_m L_m cap_m) := fun o => keepR c_w022_0 ((Below.refl _ _).alloc (Nat.le_refl _) o)
 have a_w022_1 : ∀ o, (W22.alloc o).cell? ⟨W4.heap.size, 1, none⟩ = some (.int .i64 h.n) := fun o => keepR c_w022_1 ((Below.refl _ _).alloc (Nat.le_refl _) o)
 have a_w022_2 : ∀ o, (W22.alloc o).cell? ⟨W4.heap.size, 2, none⟩ = some (.string h.r) := fun o => keepR c_w022_2 ((Below.refl _ _).alloc (Nat.le_refl _) o)
 have a_w022_3 : ∀ o, (W22.alloc o).cell? ⟨W4.heap.size, 3, none⟩ = some (.slice ao_mp L_mp cap_mp) := fun o => keepR c_w022_3 ((Below.refl _ _).alloc (Nat.le_refl _) o)
 have a_w022_4 : ∀ o, (W22.alloc o).cell? ⟨W4.heap.size, 4, none⟩ = some (.int .i64 s) := fun o => keepR c_w022_4 ((Below.refl _ _).alloc (Nat.le_refl _) o)
 obtain ⟨W23, HW23, b23, y23, hS23, r_h023⟩ : ∃ X, Hid ((W22.alloc (.cells #[.slice ao_h L_h cap_h, .int .i64 h.n, .string h.r, .slice ao_hp L_hp cap_hp, .int .i64 s] 39)) = X) ∧ Below W22.heap.size W22 X ∧ W22.heap.size + 1 ≤ X.heap.size ∧ Hid (X.heap.size = W22.heap.size + 1) ∧ Hid (X.heap[W22.heap.size]? = some (.cells #[.slice ao_h L_h cap_h, .int .i64 h.n, .string h.r, .slice ao_hp L_hp cap_hp, .int .i64 s] 39 (0, 0))) := ⟨_, rfl, ((Below.refl _ _).alloc (Nat.le_refl _) _), by simp, by show _ = _; simp, (by show _ = _; exact alloc_nth1_0 W22 _)⟩
 have B23 : Hid (Below w.heap.size w W23) := B22.out.trans (b23.mono B22.out.size)
 have r_g023 : Hid (W23.heap[W8.heap.size]? = some (.cells #[.slice ao_g L_g cap_g, .int .i64 h.n, .string h.r, .slice ao_gp L_gp cap_gp, .int .i64 s] 39 (0, 0))) := rowKeep r_g022.out b23
 have o_m23 : Hid (Own W23 (lo_m) (hi_m) 9 (.slice ao_m L_m cap_m) (ss l)) := Own.later o_m22.out b23 (by omega)
 have o_mp23 : Hid (Own W23 (lo_mp) (hi_mp) 5 (.slice ao_mp L_mp cap_mp) (bs c)) := Own.later o_mp22.out b23 (by omega)
 have o_g23 : Hid (Own W23 (lo_g) (hi_g) 9 (.slice ao_g L_g cap_g) (ss (Strs.mts 1 l.length))) := Own.later o_g22.out b23 (by omega)
 have o_gp23 : Hid (Own W23 (lo_gp) (hi_gp) 5 (.slice ao_gp L_gp cap_gp) (bs (marks (1 + l.length) c.length))) := Own.later o_gp22.out b23 (by omega)
 have o_h23 : Hid (Own W23 (lo_h) (hi_h) 9 (.slice ao_h L_h cap_h) (ss l)) := Own.later o_h22.out b23 (by omega)
 have o_hp23 : Hid (Own W23 (lo_hp) (hi_hp) 5 (.slice ao_hp L_hp cap_hp) (bs c)) := Own.later o_hp22.out b23 (by omega)
 clear r_w022 c_w022_0 c_w022_1 c_w022_2 c_w022_3 c_w022_4 r_g022 o_m22 o_mp22 o_g22 o_gp22 o_h22 o_hp22
 go_wp2_with fail
 rw [HW23.out]
 clear a_w022_0 a_w022_1 a_w022_2 a_w022_3 a_w022_4
 refine (eq_store W23 _ _ _ _ l h c s o_h23.out.sl o_m23.out.sl o_hp23.out.sl o_mp23.out.sl (by omega) (by omega)).mono ?_
 rintro e W24 ⟨rfl, b24⟩
 have B24 : Hid (Below w.heap.size w W24) := B23.out.trans (b24.mono B23.out.size)
 have r_g024 : Hid (W24.heap[W8.heap.size]? = some (.cells #[.slice ao_g L_g cap_g, .int .i64 h.n, .string h.r, .slice ao_gp L_gp cap_gp, .int .i64 s] 39 (0, 0))) := rowKeep r_g023.out b24
 have o_g24 : Hid (Own W24 (lo_g) (hi_g) 9 (.slice ao_g L_g cap_g) (ss (Strs.mts 1 l.length))) := Own.later o_g23.out b24 (by omega)
 have o_gp24 : Hid (Own W24 (lo_gp) (hi_gp) 5 (.slice ao_gp L_gp cap_gp) (bs (marks (1 + l.length) c.length))) := Own.later o_gp23.out b24 (by omega)
 have c_g024_0 : W24.cell? ⟨W8.heap.size, 0, none⟩ = some (.slice ao_g L_g cap_g) := row_at r_g024.out 0
 have c_g024_1 : W24.cell? ⟨W8.heap.size, 1, none⟩ = some (.int .i64 h.n) := row_at r_g024.out 1
 have c_g024_2 : W24.cell? ⟨W8.heap.size, 2, none⟩ = some (.string h.r) := row_at r_g024.out 2
 have c_g024_3 : W24.cell? ⟨W8.heap.size, 3, none⟩ = some (.slice ao_gp L_gp cap_gp) := row_at r_g024.out 3
 have c_g024_4 : W24.cell? ⟨W8.heap.size, 4, none⟩ = some (.int .i64 s) := row_at r_g024.out 4
 clear r_g023 r_h023 o_m23 o_mp23 o_g23 o_gp23 o_h23 o_hp23
 go_wp2_with fail
 refine (held_store W24 h _ _ s l.length c.length 1 o_g24.out.sl o_gp24.out.sl (by omega) (by omega) (by omega) (by omega)).mono ?_
 rintro e W25 ⟨rfl, b25⟩
 have B25 : Hid (Below w.heap.size w W25) := B24.out.trans (b25.mono B24.out.size)
 clear r_g024 c_g024_0 c_g024_1 c_g024_2 c_g024_3 c_g024_4 o_g24 o_gp24
 go_wp2
 go_ret
 exact ⟨rfl, B25.out⟩
end Go.Proofs.YtfpaichdkddglabGreatDoor.Sr
namespace Go.Proofs.YtfpaichdkddglabGreatDoor.Ed
open Go.RowKit Go.Proofs.YtfpaichdkddglabGreatDoor.Mem Go.Proofs.YtfpaichdkddglabGreatDoor.Laws Go.Proofs.YtfpaichdkddglabGreatDoor.Sha Go.Proofs.YtfpaichdkddglabGreatDoor.Tr
set_option linter.unusedVariables false
set_option linter.unusedSimpArgs false
def top (n : Nat) : Nat := half (n + 1)
theorem top_ok {n : Nat} (h : 1 ≤ n) : Pow (top n) ∧ top n ≤ n ∧ n < 2 * top n := by
 obtain ⟨a, b, c⟩ := half_ok (n := n + 1) (by omega)
 exact ⟨a, by unfold top; omega, by unfold top; omega⟩
theorem top_pos {n : Nat} (h : 1 ≤ n) : 1 ≤ top n := by have := (top_ok h).2.2; omega
def edgeF : Nat → List ByteArray → List ByteArray
 | 0, _ => []
 | f + 1, l => if 1 ≤ l.length then root (l.take (top l.length)) :: edgeF f (l.drop (top l.length)) else []
theorem dropT_lt {l : List ByteArray} (h : 1 ≤ l.length) : (l.drop (top l.length)).length < l.length := by
 rw [List.length_drop]; have := top_pos h; omega
theorem edgeF_any : ∀ (f g : Nat) (l : List ByteArray), l.length < f → l.length < g → edgeF f l = edgeF g l := by
 intro f
 induction f with
 | zero => intro g l hf; omega
 | succ f ih =>
  intro g l hf hg
  cases g with
  | zero => omega
  | succ g =>
   by_cases h : 1 ≤ l.length
   ·
    have h1 := dropT_lt h
    rw [edgeF, edgeF, if_pos h, if_pos h, ih g (l.drop (top l.length)) (by omega) (by omega)]
   ·
    rw [edgeF, edgeF, if_neg h, if_neg h]
def edge (l : List ByteArray) : List ByteArray := edgeF (l.length + 1) l
theorem edge_nil : edge [] = [] := by unfold edge; rw [edgeF]; simp
theorem edge_some {l : List ByteArray} (h : 1 ≤ l.length) : edge l = root (l.take (top l.length)) :: edge (l.drop (top l.length)) := by
 have h1 := dropT_lt h
 unfold edge
 rw [edgeF, if_pos h, edgeF_any l.length ((l.drop (top l.length)).length + 1) (l.drop (top l.length)) (by omega) (by omega)]
def eroot : List ByteArray → ByteArray
 | [] => Plain.txt (digest [])
 | [h] => h
 | h :: g :: r => nodeH h (eroot (g :: r))
theorem eroot_cons {h : ByteArray} {r : List ByteArray} (hr : r ≠ []) : eroot (h :: r) = nodeH h (eroot r) := by
 cases r with
 | nil => exact absurd rfl hr
 | cons g r => rfl
theorem edge_ne {l : List ByteArray} (h : 1 ≤ l.length) : edge l ≠ [] := by rw [edge_some h]; simp
theorem eroot_edge (l : List ByteArray) : eroot (edge l) = root l := by
 refine lenRec (P := fun l => eroot (edge l) = root l) ?_ l
 intro l ih
 by_cases h : 1 ≤ l.length
 ·
  obtain ⟨hp, h1, h2⟩ := top_ok h
  have hpos := top_pos h
  rw [edge_some h]
  by_cases he : top l.length = l.length
  ·
   rw [he, List.take_length, List.drop_length, edge_nil]
   rfl
  ·
   have hd : 1 ≤ (l.drop (top l.length)).length := by rw [List.length_drop]; omega
   have h3 : 2 ≤ l.length := by omega
   rw [eroot_cons (edge_ne hd), ih (l.drop (top l.length)) (dropT_lt h), root_more h3]
   obtain ⟨a, b, c⟩ := half_ok h3
   rw [pow_one a hp b c (by omega) (by omega)]
 ·
  obtain rfl : l = [] := List.eq_nil_of_length_eq_zero (by omega)
  rw [edge_nil, root_nil]
  rfl
def carryF : Nat → Nat → List ByteArray → ByteArray → List ByteArray
 | 0, _, _, _ => []
 | f + 1, n, hs, h => if n % 2 = 1 then carryF f (n / 2) hs.dropLast (nodeH (hs.getLastD ⟨#[]⟩) h) else hs ++ [h]
theorem carryF_any : ∀ (f g n : Nat) (hs : List ByteArray) (h : ByteArray), n < f → n < g → carryF f n hs h = carryF g n hs h := by
 intro f
 induction f with
 | zero => intro g n hs h hf; omega
 | succ f ih =>
  intro g n hs h hf hg
  cases g with
  | zero => omega
  | succ g =>
   by_cases h0 : n % 2 = 1
   ·
    rw [carryF, carryF, if_pos h0, if_pos h0, ih g (n / 2) _ _ (by omega) (by omega)]
   ·
    rw [carryF, carryF, if_neg h0, if_neg h0]
def carry (n : Nat) (hs : List ByteArray) (h : ByteArray) : List ByteArray := carryF (n + 1) n hs h
theorem carry_if (n : Nat) (hs : List ByteArray) (h : ByteArray) : carry n hs h = if n % 2 = 1 then carry (n / 2) hs.dropLast (nodeH (hs.getLastD ⟨#[]⟩) h) else hs ++ [h] := by
 unfold carry
 by_cases h0 : n % 2 = 1
 ·
  rw [carryF, if_pos h0, if_pos h0, carryF_any n (n / 2 + 1) (n / 2) _ _ (by omega) (by omega)]
 ·
  rw [carryF, if_neg h0, if_neg h0]
theorem carry_even {n : Nat} (h0 : ¬ n % 2 = 1) (hs : List ByteArray) (h : ByteArray) : carry n hs h = hs ++ [h] := by rw [carry_if, if_neg h0]
theorem carry_odd {n : Nat} (h0 : n % 2 = 1) (hs : List ByteArray) (g h : ByteArray) : carry n (hs ++ [g]) h = carry (n / 2) hs (nodeH g h) := by
 rw [carry_if, if_pos h0]; simp
theorem pow_half (j : Nat) : half (2 ^ (j + 1)) = 2 ^ j := by
 have h1 : 1 ≤ 2 ^ j := Nat.one_le_two_pow
 obtain ⟨a, b, c⟩ := half_ok (n := 2 ^ (j + 1)) (by omega)
 exact pow_one a ⟨j, rfl⟩ b c (by omega) (by omega)
theorem root_two {u t : List ByteArray} {j : Nat} (hu : u.length = 2 ^ j) (ht : t.length = 2 ^ j) : root (u ++ t) = nodeH (root u) (root t) := by
 have h1 : 1 ≤ 2 ^ j := Nat.one_le_two_pow
 have hl : (u ++ t).length = 2 ^ (j + 1) := by rw [List.length_append]; omega
 rw [root_more (by omega), hl, pow_half, ← hu, List.take_left, List.drop_left]
theorem top_pow (j : Nat) : top (2 ^ j) = 2 ^ j := by
 have h1 : 1 ≤ 2 ^ j := Nat.one_le_two_pow
 obtain ⟨a, b, c⟩ := top_ok h1
 exact pow_one (n := 2 ^ j + 1) a ⟨j, rfl⟩ (by omega) (by omega) (by omega) (by omega)
theorem edge_pow {t : List ByteArray} {j : Nat} (ht : t.length = 2 ^ j) : edge t = [root t] := by
 have h1 : 1 ≤ 2 ^ j := Nat.one_le_two_pow
 rw [edge_some (by omega), ht, top_pow, ← ht, List.take_length, List.drop_length, edge_nil]
theorem edge_snoc {j : Nat} {t : List ByteArray} (ht : t.length = 2 ^ j) (l : List ByteArray) : ∀ (hl : 2 ^ (j + 1) ∣ l.length), edge (l ++ t) = edge l ++ [root t] := by
 refine lenRec (P := fun l => ∀ (hl : 2 ^ (j + 1) ∣ l.length), edge (l ++ t) = edge l ++ [root t]) ?_ l
 intro l ihl hl
 by_cases h : 1 ≤ l.length
 ·
  obtain ⟨⟨d, hp⟩, a, b⟩ := top_ok h
  have hle : 2 ^ (j + 1) ≤ l.length := Nat.le_of_dvd (by omega) hl
  have hjd : j + 1 ≤ d := by
   have h4 : 2 ^ (j + 1) < 2 ^ (d + 1) := by rw [Nat.pow_succ 2 d]; omega
   have := (Nat.pow_lt_pow_iff_right (by omega : 1 < 2)).1 h4
   omega
  have hdvd : 2 ^ (j + 1) ∣ top l.length := by rw [hp]; exact Nat.pow_dvd_pow 2 hjd
  have hdrop : 2 ^ (j + 1) ∣ (l.drop (top l.length)).length := by rw [List.length_drop]; exact Nat.dvd_sub hl hdvd
  have hlt : l.length + 2 ^ j < 2 * top l.length := by
   have h5 : 2 ^ (j + 1) ∣ 2 * top l.length - l.length := Nat.dvd_sub (Nat.dvd_trans hdvd (Nat.dvd_mul_left _ _)) hl
   have h6 := Nat.le_of_dvd (by omega) h5
   omega
  have hlen : (l ++ t).length = l.length + 2 ^ j := by rw [List.length_append, ht]
  have htop : top (l ++ t).length = top l.length := by
   obtain ⟨a', b', c'⟩ := top_ok (n := (l ++ t).length) (by omega)
   exact pow_one (n := (l ++ t).length + 1) a' ⟨d, hp⟩ (by omega) (by omega) (by omega) (by omega)
  have ih := ihl (l.drop (top l.length)) (dropT_lt h) hdrop
  rw [edge_some (l := l ++ t) (by omega), htop, List.take_append_of_le_length a, List.drop_append_of_le_length a, ih, edge_some h]
  rfl
 ·
  obtain rfl : l = [] := List.eq_nil_of_length_eq_zero (by omega)
  rw [List.nil_append, edge_pow ht, edge_nil]
  rfl
theorem carry_edge (n : Nat) : ∀ (j : Nat) (l t : List ByteArray), l.length = n * 2 ^ j → t.length = 2 ^ j → carry n (edge l) (root t) = edge (l ++ t) := by
 refine natRec (P := fun n => ∀ (j : Nat) (l t : List ByteArray), l.length = n * 2 ^ j → t.length = 2 ^ j → carry n (edge l) (root t) = edge (l ++ t)) ?_ n
 intro n ihn j l t hl ht
 have h1 : 1 ≤ 2 ^ j := Nat.one_le_two_pow
 have e : 2 ^ (j + 1) = 2 * 2 ^ j := by rw [Nat.pow_succ]; omega
 by_cases hn : n % 2 = 1
 ·
  have hm : n * 2 ^ j = (n / 2) * 2 ^ (j + 1) + 2 ^ j := by
   have : n = 2 * (n / 2) + 1 := by omega
   generalize n / 2 = m at this
   rw [this, e, Nat.add_mul, Nat.one_mul, Nat.mul_comm 2 m, Nat.mul_assoc]
  have h2 : (l.take ((n / 2) * 2 ^ (j + 1))).length = (n / 2) * 2 ^ (j + 1) := by rw [List.length_take]; omega
  have h3 : (l.drop ((n / 2) * 2 ^ (j + 1))).length = 2 ^ j := by rw [List.length_drop]; omega
  have h4 : edge l = edge (l.take ((n / 2) * 2 ^ (j + 1))) ++ [root (l.drop ((n / 2) * 2 ^ (j + 1)))] := by
   have := edge_snoc h3 (l.take ((n / 2) * 2 ^ (j + 1))) (by rw [h2]; exact Nat.dvd_mul_left _ _)
   rwa [List.take_append_drop] at this
  rw [h4, carry_odd hn, ← root_two h3 ht, ihn (n / 2) (by omega) (j + 1) _ (l.drop ((n / 2) * 2 ^ (j + 1)) ++ t) h2 (by rw [List.length_append]; omega), ← List.append_assoc, List.take_append_drop]
 ·
  have hm : l.length = (n / 2) * 2 ^ (j + 1) := by
   have : n = 2 * (n / 2) := by omega
   generalize n / 2 = m at this
   rw [hl, this, e, Nat.mul_comm 2 m, Nat.mul_assoc]
  rw [carry_even hn, edge_snoc ht l (by rw [hm]; exact Nat.dvd_mul_left _ _)]
theorem carry_one (l : List ByteArray) (s : ByteArray) : carry l.length (edge l) (leafH s) = edge (l ++ [s]) := by
 rw [← root_one]
 exact carry_edge l.length 0 l [s] (by simp) (by simp)
def popcF : Nat → Nat → Nat
 | 0, _ => 0
 | f + 1, n => if n = 0 then 0 else n % 2 + popcF f (n / 2)
theorem popcF_any : ∀ (f g n : Nat), n < f → n < g → popcF f n = popcF g n := by
 intro f
 induction f with
 | zero => intro g n hf; omega
 | succ f ih =>
  intro g n hf hg
  cases g with
  | zero => omega
  | succ g =>
   by_cases h0 : n = 0
   ·
    rw [popcF, popcF, if_pos h0, if_pos h0]
   ·
    rw [popcF, popcF, if_neg h0, if_neg h0, ih g (n / 2) (by omega) (by omega)]
def popc (n : Nat) : Nat := popcF (n + 1) n
theorem popc_zero : popc 0 = 0 := rfl
theorem popc_step {n : Nat} (h : n ≠ 0) : popc n = n % 2 + popc (n / 2) := by
 unfold popc
 rw [popcF, if_neg h, popcF_any n (n / 2 + 1) (n / 2) (by omega) (by omega)]
theorem carry_len (n : Nat) : ∀ (hs : List ByteArray) (h : ByteArray), hs.length = popc n → (carry n hs h).length = popc (n + 1) := by
 refine natRec (P := fun n => ∀ (hs : List ByteArray) (h : ByteArray), hs.length = popc n → (carry n hs h).length = popc (n + 1)) ?_ n
 intro n ih hs h hl
 by_cases hn : n % 2 = 1
 ·
  rw [popc_step (by omega), hn] at hl
  rcases List.eq_nil_or_concat hs with rfl | ⟨q, g, rfl⟩
  ·
   simp at hl
   omega
  ·
   rw [List.concat_eq_append] at *
   have hq : q.length = popc (n / 2) := by simp at hl; omega
   rw [carry_odd hn, ih (n / 2) (by omega) q _ hq, popc_step (n := n + 1) (by omega), show (n + 1) % 2 = 0 by omega, show (n + 1) / 2 = n / 2 + 1 by omega]
   omega
 ·
  rw [carry_even hn, List.length_append, hl, popc_step (n := n + 1) (by omega), show (n + 1) % 2 = 1 by omega, show (n + 1) / 2 = n / 2 by omega]
  by_cases h0 : n = 0
  ·
   subst h0; simp [popc_zero]
  ·
   rw [popc_step h0, show n % 2 = 0 by omega]; simp; omega
theorem carry_sizes (n : Nat) : ∀ (hs : List ByteArray) (h : ByteArray), (∀ s ∈ hs, s.size = 32) → h.size = 32 → ∀ s ∈ carry n hs h, s.size = 32 := by
 refine natRec (P := fun n => ∀ (hs : List ByteArray) (h : ByteArray), (∀ s ∈ hs, s.size = 32) → h.size = 32 → ∀ s ∈ carry n hs h, s.size = 32) ?_ n
 intro n ih hs h hl h32
 by_cases hn : n % 2 = 1
 ·
  rw [carry_if, if_pos hn]
  exact ih (n / 2) (by omega) _ _ (fun s hs' => hl s (List.dropLast_subset _ hs')) (nodeH_size _ _)
 ·
  rw [carry_even hn]
  intro s hs'
  rcases List.mem_append.1 hs' with h1 | h1
  ·
   exact hl s h1
  ·
   simp at h1; rw [h1]; exact h32
theorem edge_sizes (l : List ByteArray) : ∀ s ∈ edge l, s.size = 32 := by
 refine lenRec (P := fun l => ∀ s ∈ edge l, s.size = 32) ?_ l
 intro l ih
 by_cases h : 1 ≤ l.length
 ·
  have hp := top_pos h
  rw [edge_some h]
  intro s hs
  rcases List.mem_cons.1 hs with rfl | hs
  ·
   exact root_size _
  ·
   exact ih _ (dropT_lt h) s hs
 ·
  obtain rfl : l = [] := List.eq_nil_of_length_eq_zero (by omega)
  rw [edge_nil]; intro s hs; cases hs
theorem edge_lenN : ∀ (N : Nat) (l : List ByteArray), l.length = N → (edge l).length = popc N := by
 intro N
 induction N with
 | zero =>
  intro l h
  obtain rfl : l = [] := List.eq_nil_of_length_eq_zero h
  rw [edge_nil, popc_zero]; rfl
 | succ n ih =>
  intro l h
  rcases List.eq_nil_or_concat l with rfl | ⟨q, s, rfl⟩
  ·
   cases h
  ·
   rw [List.concat_eq_append] at *
   have hq : q.length = n := by simp at h; exact h
   rw [← carry_one, hq, carry_len _ _ _ (ih q hq)]
theorem edge_len (l : List ByteArray) : (edge l).length = popc l.length := edge_lenN _ l rfl
theorem popc_le : ∀ n : Fin 256, popc n.val ≤ 8 := by decide +kernel
def okE (n : Int) (hs : List ByteArray) : Bool := decide (0 ≤ n ∧ n ≤ 200) && decide (hs.length = popc n.toNat) && hs.all (fun s => decide (s.size = 32))
def addE (n : Int) (hs : List ByteArray) (s : ByteArray) : Int × List ByteArray × Bool :=
 if okE n hs = true ∧ n ≠ 200 then (n + 1, carry n.toNat hs (leafH s), true) else (n, hs, false)
def rootE (n : Int) (hs : List ByteArray) : ByteArray := if okE n hs = true then eroot hs else ⟨#[]⟩
def goE (n : Int) (hs : List ByteArray) : List ByteArray → Option (Int × List ByteArray)
 | [] => some (n, hs)
 | s :: r => if (addE n hs s).2.2 = true then goE (addE n hs s).1 (addE n hs s).2.1 r else none
def allE (n : Int) (hs l : List ByteArray) : Int × List ByteArray × Bool := match goE n hs l with
 | some (m, r) => (m, r, true)
 | none => (n, hs, false)
theorem okE_iff {n : Int} {hs : List ByteArray} : okE n hs = true ↔ (0 ≤ n ∧ n ≤ 200) ∧ hs.length = popc n.toNat ∧ ∀ s ∈ hs, s.size = 32 := by
 unfold okE
 simp [and_assoc]
theorem okE_edge {l : List ByteArray} (h : l.length ≤ 200) : okE (l.length : Int) (edge l) = true :=
 okE_iff.2 ⟨by omega, by rw [edge_len, Int.toNat_natCast], edge_sizes l⟩
theorem addE_yes {n : Int} {hs : List ByteArray} (h : okE n hs = true) (h2 : n ≠ 200) (s : ByteArray) : addE n hs s = (n + 1, carry n.toNat hs (leafH s), true) := by
 unfold addE; rw [if_pos ⟨h, h2⟩]
theorem addE_no {n : Int} {hs : List ByteArray} (h : ¬ (okE n hs = true ∧ n ≠ 200)) (s : ByteArray) : addE n hs s = (n, hs, false) := by
 unfold addE; rw [if_neg h]
theorem addE_ok {n : Int} {hs : List ByteArray} (h : okE n hs = true) (h2 : n ≠ 200) (s : ByteArray) : okE (n + 1) (carry n.toNat hs (leafH s)) = true := by
 obtain ⟨a, b, c⟩ := okE_iff.1 h
 refine okE_iff.2 ⟨by omega, ?_, carry_sizes _ _ _ c (leafH_size s)⟩
 rw [carry_len _ _ _ b, show (n + 1).toNat = n.toNat + 1 by omega]
theorem addE_edge {l : List ByteArray} (h : l.length < 200) (s : ByteArray) : addE (l.length : Int) (edge l) s = (((l ++ [s]).length : Int), edge (l ++ [s]), true) := by
 rw [addE_yes (okE_edge (by omega)) (by omega), Int.toNat_natCast, carry_one, List.length_append]
 rfl
theorem goE_edge : ∀ (r l : List ByteArray), l.length + r.length ≤ 200 → goE (l.length : Int) (edge l) r = some (((l ++ r).length : Int), edge (l ++ r))
 | [], l, _ => by rw [List.append_nil]; rfl
 | s :: r, l, h => by
  have hl : l.length < 200 := by simp at h; omega
  rw [goE, addE_edge hl, if_pos rfl]
  have := goE_edge r (l ++ [s]) (by simp at h ⊢; omega)
  rw [this, List.append_assoc]
  rfl
theorem allE_edge {l r : List ByteArray} (h : l.length + r.length ≤ 200) : allE (l.length : Int) (edge l) r = (((l ++ r).length : Int), edge (l ++ r), true) := by
 unfold allE; rw [goE_edge r l h]
theorem rootE_edge {l : List ByteArray} (h : l.length ≤ 200) : rootE (l.length : Int) (edge l) = root l := by
 unfold rootE; rw [if_pos (okE_edge h), eroot_edge]
end Go.Proofs.YtfpaichdkddglabGreatDoor.Ed
