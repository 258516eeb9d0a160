/- Texts in one: SrR. -/
import Derived.Test.YtchonoonclllbaaGreatDoorPh16
import Derived.Deep.DeepCutAuto
set_option maxHeartbeats 16000000
set_option linter.unusedVariables false
set_option linter.unusedSimpArgs false
namespace Go.Proofs.YtchonoonclllbaaGreatDoor.Sr
open Go.RowKit Mem Laws Bytes Sha Tr Draw He Lg
structure Ast (st : Sto) : Prop where
 byt : Byt st.b
 len : st.l.length ≤ 10
 sz : ∀ s ∈ st.l, s.size ≤ 3
 hd : st.h.r.size ≤ 32
 bl : st.b.length ≤ 30028
 lo : -1 ≤ st.s
 hi : st.s ≤ 30029
theorem Dst.any {t : List Hd} {A : Nat} {st : Sto} (h : Dst t A 0 st) (hA : A ≤ 9) : Ast st := ⟨h.made.1.2.2, by have := h.len; omega, h.sz, h.head, by have := h.bl; omega, by have := h.lo; omega, by have := h.hi; have := h.bl; omega⟩
set_option maxRecDepth 1000000 in
theorem any12 (W0 w : World) (g : Nat) (vb : Value) (xs : List Int) (hs : Sl W0 vb (bs xs)) (hby : Byt xs) (hx : xs.length ≤ 140737488355328) (hB : Below W0.heap.size W0 w) (hg : W0.heap.size ≤ g) (hcu : Cur w g vb xs.length) :
  Calls Tryz.prog 81 #[.pointer (some ⟨g, 0, none⟩)] w fun e w' => ∃ (st : Sto) (v u : Value), e = .returned (.agg #[v, .int .i64 st.h.n, .string st.h.r, u, .int .i64 st.s]) ∧ Ast st ∧ Own w' w.heap.size w'.heap.size 9 v (ss st.l) ∧ Own w' w.heap.size w'.heap.size 5 u (bs st.b) ∧ Drawn W0 w g vb xs w' := by
 have HSW : Hid (Sl W0 vb (bs xs)) := hs
 have hgw := hcu.lt
 clear hs
 have B0 : Hid (Apart g (g + 1) w w) := Apart.refl _ _ _
 have cu0 : Hid (Cur w (g) vb xs.length) := hcu
 have bw0 : Hid (Below W0.heap.size W0 w) := hB
 obtain ⟨i5, hi5, hz5a, hz5b, hz5c⟩ := info_parts info5
 obtain ⟨W1, HW1, b1, y1, hS1, r_res1⟩ := Ke.l1 w #[.slice none 0 0, .int .i64 0, .string ⟨#[]⟩, .slice none 0 0, .int .i64 0] 30
 have z1 := b1.size
 have B1 : Hid (Apart g (g + 1) w W1) := B0.out.grow b1
 have cu1 : Hid (Cur W1 (g) vb xs.length) := cu0.out.keep b1
 have bw1 := Ke.b bw0 b1
 clear cu0 bw0
 go_enter Tryz.func81, Tryz.ntmps81
 go_wp2_with fail
 rw [HW1.out]
 refine (draw12 W0 W1 g _ xs HSW.out hby hx bw1.out hg cu1.out).mono ?_
 rintro e W2 ⟨st, all, t, v_v, v_u, v_a, v_t, rfl, hD, hA1, hA9, hAz, ht1, ht9, htz, o_v2, o_u2, o_a2, o_t2, d2⟩
 have z2 : W1.heap.size ≤ W2.heap.size := d2.apart.size
 have B2 : Hid (Apart g (g + 1) w W2) := B1.out.trans d2.apart
 have cu2 : Hid (Cur W2 (g) vb xs.length) := d2.cur
 have bw2 : Hid (Below W0.heap.size W0 W2) := d2.below
 have r_res2 : Hid (W2.heap[w.heap.size]? = some (.cells #[.slice none 0 0, .int .i64 0, .string ⟨#[]⟩, .slice none 0 0, .int .i64 0] 30 (0, 0))) := drawn_row r_res1.out d2 (by omega)
 clear r_res1
 clear cu1 bw1 d2
 obtain ⟨ao_v, L_v, cap_v, rfl, _, _⟩ := Mem.Own.form o_v2
 have o_v2 : Hid (Own W2 W1.heap.size W2.heap.size 9 (.slice ao_v L_v cap_v) (ss st.l)) := o_v2
 obtain ⟨ao_u, L_u, cap_u, rfl, _, _⟩ := Mem.Own.form o_u2
 have o_u2 : Hid (Own W2 W1.heap.size W2.heap.size 5 (.slice ao_u L_u cap_u) (bs st.b)) := o_u2
 obtain rfl : L_u = st.b.length := by obtain ⟨a9, L9, c9, he, h1, h2⟩ := Mem.Own.form o_u2.out; injection he with _ he2 _; rw [bs_len] at h1 h2; omega
 obtain ⟨ao_t, cap_t, rfl, _⟩ := (Oh.sh o_t2).form
 obtain ⟨ao_a, L_a, cap_a, rfl, _, _⟩ := Mem.Own.form o_a2
 clear o_a2 o_t2 hAz htz
 have HA : Hid (Ast st) := Dst.any hD hA9
 have hbl : st.b.length ≤ 30027 := by have := hD.bl; omega
 clear hD
 obtain ⟨W3, HW3, b3, y3, hS3, r_x3⟩ := Ke.l1 W2 #[.slice ao_v L_v cap_v, .int .i64 st.h.n, .string st.h.r, .slice ao_u st.b.length cap_u, .int .i64 st.s] 30
 have z3 := b3.size
 have B3 : Hid (Apart g (g + 1) w W3) := B2.out.grow b3
 have r_res3 := Ke.r r_res2 b3
 have o_v3 := Ke.o o_v2 b3
 have o_u3 := Ke.o o_u2 b3
 clear r_res2 o_v2 o_u2
 have cu3 : Hid (Cur W3 (g) vb xs.length) := cu2.out.keep b3
 have bw3 := Ke.b bw2 b3
 clear cu2 bw2
 go_wp2_with fail
 rw [HW3.out]
 refine (below_any W0 W3 g _ xs 12 (by omega) (by omega) HSW.out hby hx bw3.out hg cu3.out).mono ?_
 rintro e W4 ⟨y, rfl, hy0, hy12, d4⟩
 have z4 : W3.heap.size ≤ W4.heap.size := d4.apart.size
 have B4 : Hid (Apart g (g + 1) w W4) := B3.out.trans d4.apart
 have cu4 : Hid (Cur W4 (g) vb xs.length) := d4.cur
 have bw4 : Hid (Below W0.heap.size W0 W4) := d4.below
 have r_res4 : Hid (W4.heap[w.heap.size]? = some (.cells #[.slice none 0 0, .int .i64 0, .string ⟨#[]⟩, .slice none 0 0, .int .i64 0] 30 (0, 0))) := drawn_row r_res3.out d4 (by omega)
 have r_x4 : Hid (W4.heap[W2.heap.size]? = some (.cells #[.slice ao_v L_v cap_v, .int .i64 st.h.n, .string st.h.r, .slice ao_u st.b.length cap_u, .int .i64 st.s] 30 (0, 0))) := drawn_row r_x3.out d4 (by omega)
 have o_v4 : Hid (Own W4 (W1.heap.size) (W2.heap.size) 9 (.slice ao_v L_v cap_v) (ss st.l)) := Own.drawn o_v3.out d4 (by omega) (by omega)
 have o_u4 : Hid (Own W4 (W1.heap.size) (W2.heap.size) 5 (.slice ao_u st.b.length cap_u) (bs st.b)) := Own.drawn o_u3.out d4 (by omega) (by omega)
 have c_x4 := Ke.c r_x4
 clear r_res3 r_x3 o_v3 o_u3
 clear cu3 bw3 d4
 by_cases hy0a : y = 0
 ·subst hy0a
  have w1 : IntKind.i64.wrap ((st.b.length : Int) + 1) = (st.b.length : Int) + 1 := by rw [IntKind.wrap_i64]; omega
  have kx3 := (c_x4 3)
  obtain ⟨W5, HW5, b5, y5, hS5, r_li5⟩ := Ke.l1 W4 #[.int .i64 (-1), .int .i64 (st.b.length : Int), .int .i64 ((st.b.length : Int) + 1)] 3
  have z5 := b5.size
  have B5 : Hid (Apart g (g + 1) w W5) := B4.out.grow b5
  have r_res5 := Ke.r r_res4 b5
  have r_x5 := Ke.r r_x4 b5
  have o_v5 := Ke.o o_v4 b5
  have o_u5 := Ke.o o_u4 b5
  clear r_res4 r_x4 c_x4 o_v4 o_u4
  have cu5 : Hid (Cur W5 (g) vb xs.length) := cu4.out.keep b5
  have bw5 := Ke.b bw4 b5
  clear cu4 bw4
  go_wp2_with fail
  rw [HW5.out]
  refine (int_any W0 W5 g _ xs (W4.heap.size) [-1, (st.b.length : Int), (st.b.length : Int) + 1] r_li5.out (by omega) (by simp) (by simp) HSW.out hby hx bw5.out hg cu5.out).mono ?_
  rintro e W6 ⟨i, rfl, him, d6⟩
  have z6 : W5.heap.size ≤ W6.heap.size := d6.apart.size
  have B6 : Hid (Apart g (g + 1) w W6) := B5.out.trans d6.apart
  have cu6 : Hid (Cur W6 (g) vb xs.length) := d6.cur
  have bw6 : Hid (Below W0.heap.size W0 W6) := d6.below
  have r_res6 : Hid (W6.heap[w.heap.size]? = some (.cells #[.slice none 0 0, .int .i64 0, .string ⟨#[]⟩, .slice none 0 0, .int .i64 0] 30 (0, 0))) := drawn_row r_res5.out d6 (by omega)
  have r_x6 : Hid (W6.heap[W2.heap.size]? = some (.cells #[.slice ao_v L_v cap_v, .int .i64 st.h.n, .string st.h.r, .slice ao_u st.b.length cap_u, .int .i64 st.s] 30 (0, 0))) := drawn_row r_x5.out d6 (by omega)
  have o_v6 : Hid (Own W6 (W1.heap.size) (W2.heap.size) 9 (.slice ao_v L_v cap_v) (ss st.l)) := Own.drawn o_v5.out d6 (by omega) (by omega)
  have o_u6 : Hid (Own W6 (W1.heap.size) (W2.heap.size) 5 (.slice ao_u st.b.length cap_u) (bs st.b)) := Own.drawn o_u5.out d6 (by omega) (by omega)
  clear r_res5 r_x5 r_li5 o_v5 o_u5
  clear cu5 bw5 d6
  have hib : -1 ≤ i ∧ i ≤ 30029 := by simp at him; omega
  clear him
  go_wp2_with (refine wpl_oneG rfl 3 _ _ rfl (W2.heap.size) 4 (.int .i64 i) rfl rfl [.slice ao_v L_v cap_v, .int .i64 st.h.n, .string st.h.r, .slice ao_u st.b.length cap_u, .int .i64 st.s] 30 r_x6.out (Nat.le_of_ble_eq_true rfl) (by kernel_rfl) rfl [.slice ao_v L_v cap_v, .int .i64 st.h.n, .string st.h.r, .slice ao_u st.b.length cap_u, .int .i64 i] rfl ?_)
  intro W7 r_x7 g7
  have cu7 := Ke.h (cu6.out.gro g7 (fun h9 => by injection h9 with h9; omega))
  have bw7 := Ke.i bw6 g7
  clear cu6 bw6
  have r_x7 : Hid (W7.heap[W2.heap.size]? = some (.cells #[.slice ao_v L_v cap_v, .int .i64 st.h.n, .string st.h.r, .slice ao_u st.b.length cap_u, .int .i64 i] 30 (0, 0))) := r_x7
  have z7 := g7.size
  have B7 : Hid (Apart g (g + 1) w W7) := Apart.gro B6.out g7 (fun k9 h9 => by injection h9 with h9; have := B6.out.size; omega)
  have r_res7 := Ke.s r_res6 g7
  have o_v7 := Ke.t o_v6 r_x6 g7
  have o_u7 := Ke.t o_u6 r_x6 g7
  clear r_res6 o_v6 o_u6
  clear r_x6
  clear g7
  go_wp2_with (first | (refine wpList_load_row rfl 30 _ rfl (W2.heap.size) rfl 30 (sc (.slice ao_v L_v cap_v) ((⟨st.l, st.h, st.b, i⟩ : Sto)).h (.slice ao_u st.b.length cap_u) ((⟨st.l, st.h, st.b, i⟩ : Sto)).s) (0, 0) _ r_x7.out Tryz.underlying30 rfl (sizeS _ _ _ _) ?_) | (refine wpl_partG rfl 30 _ _ rfl (w.heap.size) 0 (sc (.slice ao_v L_v cap_v) ((⟨st.l, st.h, st.b, i⟩ : Sto)).h (.slice ao_u st.b.length cap_u) ((⟨st.l, st.h, st.b, i⟩ : Sto)).s) rfl rfl [.slice none 0 0, .int .i64 0, .string ⟨#[]⟩, .slice none 0 0, .int .i64 0] 30 r_res7.out (Nat.le_of_ble_eq_true rfl) (sizeS _ _ _ _) (oneS _ _ rfl rfl) [.slice ao_v L_v cap_v, .int .i64 st.h.n, .string st.h.r, .slice ao_u st.b.length cap_u, .int .i64 i] rfl ?_))
  intro W8 r_res8 g8
  have cu8 := Ke.h (cu7.out.gro g8 (fun h9 => by injection h9 with h9; omega))
  have bw8 := Ke.i bw7 g8
  clear cu7 bw7
  have r_res8 : Hid (W8.heap[w.heap.size]? = some (.cells #[.slice ao_v L_v cap_v, .int .i64 st.h.n, .string st.h.r, .slice ao_u st.b.length cap_u, .int .i64 i] 30 (0, 0))) := r_res8
  have z8 := g8.size
  have B8 : Hid (Apart g (g + 1) w W8) := Apart.gro B7.out g8 (fun k9 h9 => by injection h9 with h9; have := B7.out.size; omega)
  have o_v8 := Ke.t o_v7 r_res7 g8
  have o_u8 := Ke.t o_u7 r_res7 g8
  clear r_x7 o_v7 o_u7
  clear r_res7
  go_wp2
  exact bodyPost_ret (v := .agg (sc (.slice ao_v L_v cap_v) ((⟨st.l, st.h, st.b, i⟩ : Sto)).h (.slice ao_u st.b.length cap_u) ((⟨st.l, st.h, st.b, i⟩ : Sto)).s)) (results_cell_row rfl _ _ (w.heap.size) 30 _ (0, 0) _ rfl r_res8.out Tryz.underlying30 rfl (sizeS _ _ _ _)) rfl ⟨(⟨st.l, st.h, st.b, i⟩ : Sto), .slice ao_v L_v cap_v, .slice ao_u st.b.length cap_u, rfl, ⟨HA.out.byt, HA.out.len, HA.out.sz, HA.out.hd, HA.out.bl, hib.1, hib.2⟩, Own.mono o_v8.out (by omega) (by omega), Own.mono o_u8.out (by omega) (by omega), ⟨cu8.out, B8.out, bw8.out⟩⟩
 ·have hy0b : (y == 0) = false := by rw [beq_eq_false_iff_ne]; exact hy0a
  by_cases hy1a : y = 1
  ·subst hy1a
   have kx3 := (c_x4 3)
   obtain ⟨W5, HW5, b5, hS5, o_e5⟩ : ∃ X, Hid ((W4.alloc (.cells #[.int .u8 1] 5)) = X) ∧ Below W4.heap.size W4 X ∧ Hid (X.heap.size = W4.heap.size + 1) ∧ Hid (Own X W4.heap.size X.heap.size 5 (.slice (some ⟨W4.heap.size, 0, none⟩) 1 1) (bs [1])) := ⟨_, rfl, (Below.refl _ _).alloc (Nat.le_refl _) _, (by show _ = _; simp), lit1 W4 W4.heap.size 1 (Nat.le_refl _)⟩
   have z5 := b5.size
   have B5 : Hid (Apart g (g + 1) w W5) := B4.out.grow b5
   have r_res5 := Ke.r r_res4 b5
   have r_x5 := Ke.r r_x4 b5
   have o_v5 := Ke.o o_v4 b5
   have o_u5 := Ke.o o_u4 b5
   clear r_res4 r_x4 c_x4 o_v4 o_u4
   have cu5 : Hid (Cur W5 (g) vb xs.length) := cu4.out.keep b5
   have bw5 := Ke.b bw4 b5
   clear cu4 bw4
   have c6_6 : (bs st.b).length + (bs [1]).length ≤ maxLen := by rw [bs_len, bs_len]; unfold maxLen; (try simp only [List.length_nil]); (try simp only [List.length_cons, List.length_nil]); omega
   have c7_6 : ((bs st.b).length + (bs [1]).length) * 1 ≤ 140737488355328 := by rw [bs_len, bs_len]; (try simp only [List.length_nil]); (try simp only [List.length_cons, List.length_nil]); omega
   have sE6 : Hid (Sl W5 _ (bs [1])) := o_e5.out.sl
   go_wp2_with (at_builtin; (try rw [HW5.out]); go_must (refine wpl_app _ rfl (.tmp 30) (.tmp 31) 22 rfl 5 i5 (.int .u8 0) 1 Tryz.underlying22 hi5 hz5a hz5b hz5c rfl (W1.heap.size) _ (bs st.b) rfl (Own.mono o_u5.out (Nat.le_refl _) (by omega)) _ rfl (bs [1]) sE6.out (bs_one [1]) c6_6 c7_6 (by omega) ?_))
   intro v_z W6 o_z6 _ g6
   have o_z6 : Own W6 (W1.heap.size) W6.heap.size 5 v_z (bs (st.b ++ [1])) := by show Own _ _ _ _ _ _; rw [bs_app]; exact o_z6
   have o_z6h : Hid (Own W6 (W1.heap.size) W6.heap.size 5 v_z (bs (st.b ++ [1]))) := o_z6
   have cu6 : Hid (Cur W6 (g) vb xs.length) := cu5.out.groOwn o_u5.out g6 (by decide)
   have bw6 : Hid (Below W0.heap.size W0 W6) := belowGro bw5.out g6 bw5.out.size (Own.low o_u5.out (by omega))
   clear cu5 bw5
   clear o_z6
   have o_z6 := o_z6h
   clear o_z6h
   obtain ⟨ao_z, L_z, cap_z, rfl, _, _⟩ := Mem.Own.form o_z6.out
   have z6 := g6.size
   have B6 : Hid (Apart g (g + 1) w W6) := Apart.gro B5.out g6 (Own.low o_u5.out (by have := B5.out.size; omega))
   have r_res6 := Ke.n r_res5 o_u5 g6
   have r_x6 := Ke.n r_x5 o_u5 g6
   have o_v6 : Hid (Own W6 (W1.heap.size) (W2.heap.size) 9 (.slice ao_v L_v cap_v) (ss st.l)) := Own.gro o_v5.out g6 (Own.neOwn o_u5.out o_v5.out (by decide))
   clear r_res5 r_x5 o_v5 o_u5 o_e5
   clear g6 sE6 c6_6 c7_6
   go_wp2_with (refine wpl_oneG rfl 22 _ _ rfl (W2.heap.size) 3 (.slice ao_z L_z cap_z) rfl rfl [.slice ao_v L_v cap_v, .int .i64 st.h.n, .string st.h.r, .slice ao_u st.b.length cap_u, .int .i64 st.s] 30 r_x6.out (Nat.le_of_ble_eq_true rfl) (by kernel_rfl) rfl [.slice ao_v L_v cap_v, .int .i64 st.h.n, .string st.h.r, .slice ao_z L_z cap_z, .int .i64 st.s] rfl ?_)
   intro W7 r_x7 g7
   have cu7 := Ke.h (cu6.out.gro g7 (fun h9 => by injection h9 with h9; omega))
   have bw7 := Ke.i bw6 g7
   clear cu6 bw6
   have r_x7 : Hid (W7.heap[W2.heap.size]? = some (.cells #[.slice ao_v L_v cap_v, .int .i64 st.h.n, .string st.h.r, .slice ao_z L_z cap_z, .int .i64 st.s] 30 (0, 0))) := r_x7
   have z7 := g7.size
   have B7 : Hid (Apart g (g + 1) w W7) := Apart.gro B6.out g7 (fun k9 h9 => by injection h9 with h9; have := B6.out.size; omega)
   have r_res7 := Ke.s r_res6 g7
   have o_v7 := Ke.t o_v6 r_x6 g7
   have o_z7 := Ke.t o_z6 r_x6 g7
   clear r_res6 o_v6 o_z6
   clear r_x6
   clear g7
   go_wp2_with (first | (refine wpList_load_row rfl 30 _ rfl (W2.heap.size) rfl 30 (sc (.slice ao_v L_v cap_v) ((⟨st.l, st.h, st.b ++ [1], st.s⟩ : Sto)).h (.slice ao_z L_z cap_z) ((⟨st.l, st.h, st.b ++ [1], st.s⟩ : Sto)).s) (0, 0) _ r_x7.out Tryz.underlying30 rfl (sizeS _ _ _ _) ?_) | (refine wpl_partG rfl 30 _ _ rfl (w.heap.size) 0 (sc (.slice ao_v L_v cap_v) ((⟨st.l, st.h, st.b ++ [1], st.s⟩ : Sto)).h (.slice ao_z L_z cap_z) ((⟨st.l, st.h, st.b ++ [1], st.s⟩ : Sto)).s) rfl rfl [.slice none 0 0, .int .i64 0, .string ⟨#[]⟩, .slice none 0 0, .int .i64 0] 30 r_res7.out (Nat.le_of_ble_eq_true rfl) (sizeS _ _ _ _) (oneS _ _ rfl rfl) [.slice ao_v L_v cap_v, .int .i64 st.h.n, .string st.h.r, .slice ao_z L_z cap_z, .int .i64 st.s] rfl ?_))
   intro W8 r_res8 g8
   have cu8 := Ke.h (cu7.out.gro g8 (fun h9 => by injection h9 with h9; omega))
   have bw8 := Ke.i bw7 g8
   clear cu7 bw7
   have r_res8 : Hid (W8.heap[w.heap.size]? = some (.cells #[.slice ao_v L_v cap_v, .int .i64 st.h.n, .string st.h.r, .slice ao_z L_z cap_z, .int .i64 st.s] 30 (0, 0))) := r_res8
   have z8 := g8.size
   have B8 : Hid (Apart g (g + 1) w W8) := Apart.gro B7.out g8 (fun k9 h9 => by injection h9 with h9; have := B7.out.size; omega)
   have o_v8 := Ke.t o_v7 r_res7 g8
   have o_z8 := Ke.t o_z7 r_res7 g8
   clear r_x7 o_v7 o_z7
   clear r_res7
   go_wp2
   exact bodyPost_ret (v := .agg (sc (.slice ao_v L_v cap_v) ((⟨st.l, st.h, st.b ++ [1], st.s⟩ : Sto)).h (.slice ao_z L_z cap_z) ((⟨st.l, st.h, st.b ++ [1], st.s⟩ : Sto)).s)) (results_cell_row rfl _ _ (w.heap.size) 30 _ (0, 0) _ rfl r_res8.out Tryz.underlying30 rfl (sizeS _ _ _ _)) rfl ⟨(⟨st.l, st.h, st.b ++ [1], st.s⟩ : Sto), .slice ao_v L_v cap_v, .slice ao_z L_z cap_z, rfl, ⟨Byt.app HA.out.byt (fun y hy => by simp at hy; omega), HA.out.len, HA.out.sz, HA.out.hd, by simp only [List.length_append, List.length_cons, List.length_nil]; omega, HA.out.lo, HA.out.hi⟩, Own.mono o_v8.out (by omega) (by omega), Own.mono o_z8.out (by omega) (by omega), ⟨cu8.out, B8.out, bw8.out⟩⟩
  ·have hy1b : (y == 1) = false := by rw [beq_eq_false_iff_ne]; exact hy1a
   by_cases hy2a : y = 2
   ·subst hy2a
    go_wp2_with fail
    refine (any11 W0 W4 g _ xs HSW.out hby hx bw4.out hg cu4.out).mono ?_
    rintro e W5 ⟨v_n, l2, h2, rfl, hll, hls, hhr, o_n5, d5⟩
    obtain ⟨ao_n, L_n, cap_n, rfl, hL_n, hM_n⟩ := o_n5.form
    have o_n5 : Hid (Own W5 W4.heap.size W5.heap.size 9 (.slice ao_n L_n cap_n) (ss l2)) := o_n5
    clear hL_n hM_n
    have z5 : W4.heap.size ≤ W5.heap.size := d5.apart.size
    have B5 : Hid (Apart g (g + 1) w W5) := B4.out.trans d5.apart
    have cu5 : Hid (Cur W5 (g) vb xs.length) := d5.cur
    have bw5 : Hid (Below W0.heap.size W0 W5) := d5.below
    have r_res5 : Hid (W5.heap[w.heap.size]? = some (.cells #[.slice none 0 0, .int .i64 0, .string ⟨#[]⟩, .slice none 0 0, .int .i64 0] 30 (0, 0))) := drawn_row r_res4.out d5 (by omega)
    have r_x5 : Hid (W5.heap[W2.heap.size]? = some (.cells #[.slice ao_v L_v cap_v, .int .i64 st.h.n, .string st.h.r, .slice ao_u st.b.length cap_u, .int .i64 st.s] 30 (0, 0))) := drawn_row r_x4.out d5 (by omega)
    have o_v5 : Hid (Own W5 (W1.heap.size) (W2.heap.size) 9 (.slice ao_v L_v cap_v) (ss st.l)) := Own.drawn o_v4.out d5 (by omega) (by omega)
    have o_u5 : Hid (Own W5 (W1.heap.size) (W2.heap.size) 5 (.slice ao_u st.b.length cap_u) (bs st.b)) := Own.drawn o_u4.out d5 (by omega) (by omega)
    clear r_res4 r_x4 c_x4 o_v4 o_u4
    clear cu4 bw4 d5
    go_wp2_with (refine wpl_partG rfl 28 _ _ rfl (W2.heap.size) 0 (lc (.slice ao_n L_n cap_n) h2) rfl rfl [.slice ao_v L_v cap_v, .int .i64 st.h.n, .string st.h.r, .slice ao_u st.b.length cap_u, .int .i64 st.s] 30 r_x5.out (Nat.le_of_ble_eq_true rfl) (sizeL _ _) (oneL _ rfl) [.slice ao_n L_n cap_n, .int .i64 h2.n, .string h2.r, .slice ao_u st.b.length cap_u, .int .i64 st.s] rfl ?_)
    intro W6 r_x6 g6
    have cu6 := Ke.h (cu5.out.gro g6 (fun h9 => by injection h9 with h9; omega))
    have bw6 := Ke.i bw5 g6
    clear cu5 bw5
    have r_x6 : Hid (W6.heap[W2.heap.size]? = some (.cells #[.slice ao_n L_n cap_n, .int .i64 h2.n, .string h2.r, .slice ao_u st.b.length cap_u, .int .i64 st.s] 30 (0, 0))) := r_x6
    have z6 := g6.size
    have B6 : Hid (Apart g (g + 1) w W6) := Apart.gro B5.out g6 (fun k9 h9 => by injection h9 with h9; have := B5.out.size; omega)
    have r_res6 := Ke.s r_res5 g6
    have o_v6 := Ke.t o_v5 r_x5 g6
    have o_u6 := Ke.t o_u5 r_x5 g6
    have o_n6 := Ke.t o_n5 r_x5 g6
    clear r_res5 o_v5 o_u5 o_n5
    clear r_x5
    clear g6
    go_wp2_with (first | (refine wpList_load_row rfl 30 _ rfl (W2.heap.size) rfl 30 (sc (.slice ao_n L_n cap_n) ((⟨l2, h2, st.b, st.s⟩ : Sto)).h (.slice ao_u st.b.length cap_u) ((⟨l2, h2, st.b, st.s⟩ : Sto)).s) (0, 0) _ r_x6.out Tryz.underlying30 rfl (sizeS _ _ _ _) ?_) | (refine wpl_partG rfl 30 _ _ rfl (w.heap.size) 0 (sc (.slice ao_n L_n cap_n) ((⟨l2, h2, st.b, st.s⟩ : Sto)).h (.slice ao_u st.b.length cap_u) ((⟨l2, h2, st.b, st.s⟩ : Sto)).s) rfl rfl [.slice none 0 0, .int .i64 0, .string ⟨#[]⟩, .slice none 0 0, .int .i64 0] 30 r_res6.out (Nat.le_of_ble_eq_true rfl) (sizeS _ _ _ _) (oneS _ _ rfl rfl) [.slice ao_n L_n cap_n, .int .i64 h2.n, .string h2.r, .slice ao_u st.b.length cap_u, .int .i64 st.s] rfl ?_))
    intro W7 r_res7 g7
    have cu7 := Ke.h (cu6.out.gro g7 (fun h9 => by injection h9 with h9; omega))
    have bw7 := Ke.i bw6 g7
    clear cu6 bw6
    have r_res7 : Hid (W7.heap[w.heap.size]? = some (.cells #[.slice ao_n L_n cap_n, .int .i64 h2.n, .string h2.r, .slice ao_u st.b.length cap_u, .int .i64 st.s] 30 (0, 0))) := r_res7
    have z7 := g7.size
    have B7 : Hid (Apart g (g + 1) w W7) := Apart.gro B6.out g7 (fun k9 h9 => by injection h9 with h9; have := B6.out.size; omega)
    have r_x7 := Ke.s r_x6 g7
    have o_v7 := Ke.t o_v6 r_res6 g7
    have o_u7 := Ke.t o_u6 r_res6 g7
    have o_n7 := Ke.t o_n6 r_res6 g7
    clear r_x6 o_v6 o_u6 o_n6
    clear r_res6
    go_wp2
    exact bodyPost_ret (v := .agg (sc (.slice ao_n L_n cap_n) ((⟨l2, h2, st.b, st.s⟩ : Sto)).h (.slice ao_u st.b.length cap_u) ((⟨l2, h2, st.b, st.s⟩ : Sto)).s)) (results_cell_row rfl _ _ (w.heap.size) 30 _ (0, 0) _ rfl r_res7.out Tryz.underlying30 rfl (sizeS _ _ _ _)) rfl ⟨(⟨l2, h2, st.b, st.s⟩ : Sto), .slice ao_n L_n cap_n, .slice ao_u st.b.length cap_u, rfl, ⟨HA.out.byt, by simp only; omega, hls, hhr, HA.out.bl, HA.out.lo, HA.out.hi⟩, Own.mono o_n7.out (by omega) (by omega), Own.mono o_u7.out (by omega) (by omega), ⟨cu7.out, B7.out, bw7.out⟩⟩
   ·have hy2b : (y == 2) = false := by rw [beq_eq_false_iff_ne]; exact hy2a
    go_wp2_with (first | (refine wpList_load_row rfl 30 _ rfl (W2.heap.size) rfl 30 (sc (.slice ao_v L_v cap_v) (st).h (.slice ao_u st.b.length cap_u) (st).s) (0, 0) _ r_x4.out Tryz.underlying30 rfl (sizeS _ _ _ _) ?_) | (refine wpl_partG rfl 30 _ _ rfl (w.heap.size) 0 (sc (.slice ao_v L_v cap_v) (st).h (.slice ao_u st.b.length cap_u) (st).s) rfl rfl [.slice none 0 0, .int .i64 0, .string ⟨#[]⟩, .slice none 0 0, .int .i64 0] 30 r_res4.out (Nat.le_of_ble_eq_true rfl) (sizeS _ _ _ _) (oneS _ _ rfl rfl) [.slice ao_v L_v cap_v, .int .i64 st.h.n, .string st.h.r, .slice ao_u st.b.length cap_u, .int .i64 st.s] rfl ?_))
    intro W5 r_res5 g5
    have cu5 := Ke.h (cu4.out.gro g5 (fun h9 => by injection h9 with h9; omega))
    have bw5 := Ke.i bw4 g5
    clear cu4 bw4
    have r_res5 : Hid (W5.heap[w.heap.size]? = some (.cells #[.slice ao_v L_v cap_v, .int .i64 st.h.n, .string st.h.r, .slice ao_u st.b.length cap_u, .int .i64 st.s] 30 (0, 0))) := r_res5
    have z5 := g5.size
    have B5 : Hid (Apart g (g + 1) w W5) := Apart.gro B4.out g5 (fun k9 h9 => by injection h9 with h9; have := B4.out.size; omega)
    have r_x5 := Ke.s r_x4 g5
    have o_v5 := Ke.t o_v4 r_res4 g5
    have o_u5 := Ke.t o_u4 r_res4 g5
    clear r_x4 c_x4 o_v4 o_u4
    clear r_res4
    go_wp2
    exact bodyPost_ret (v := .agg (sc (.slice ao_v L_v cap_v) (st).h (.slice ao_u st.b.length cap_u) (st).s)) (results_cell_row rfl _ _ (w.heap.size) 30 _ (0, 0) _ rfl r_res5.out Tryz.underlying30 rfl (sizeS _ _ _ _)) rfl ⟨st, .slice ao_v L_v cap_v, .slice ao_u st.b.length cap_u, rfl, HA.out, Own.mono o_v5.out (by omega) (by omega), Own.mono o_u5.out (by omega) (by omega), ⟨cu5.out, B5.out, bw5.out⟩⟩
end Go.Proofs.YtchonoonclllbaaGreatDoor.Sr
