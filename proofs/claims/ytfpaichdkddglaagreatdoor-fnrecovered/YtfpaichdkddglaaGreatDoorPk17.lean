/- Texts in one: SrQ. -/
import Derived.Test.YtfpaichdkddglaaGreatDoorPk15
import Derived.Test.YtfpaichdkddglaaGreatDoorPk16
import Derived.Test.YtfpaichdkddglaaGreatDoorPk14
import Derived.Test.YtfpaichdkddglaaGreatDoorPk10
import Derived.Test.YtfpaichdkddglaaGreatDoorPk9
import Derived.Deep.DeepCutAuto
namespace Go.Proofs.YtfpaichdkddglaaGreatDoor.Sr
open Go.RowKit Go.Proofs.YtfpaichdkddglaaGreatDoor.Mem Go.Proofs.YtfpaichdkddglaaGreatDoor.Laws Go.Proofs.YtfpaichdkddglaaGreatDoor.Bytes Go.Proofs.YtfpaichdkddglaaGreatDoor.Sha Go.Proofs.YtfpaichdkddglaaGreatDoor.Tr Go.Proofs.YtfpaichdkddglaaGreatDoor.Draw Go.Proofs.YtfpaichdkddglaaGreatDoor.He Go.Proofs.YtfpaichdkddglaaGreatDoor.Lg
set_option linter.unusedVariables false
set_option linter.unusedSimpArgs false
theorem stay {P : Prop} {n : Nat} {w w' : World} (h : P) (b : Below n w w') : P := h
set_option maxRecDepth 1000000 in
set_option maxHeartbeats 2000000 in
theorem begins_true (w : World) (v1 v2 : Value) (l m : List ByteArray) (h1 : Sl w v1 (ss l)) (h2 : Sl w v2 (ss m)) (hp : l <+: m) (hm : m.length ≤ 1000000) :
  Calls Tryz.prog 19 #[v1, v2] w fun e w' => e = .returned (.bool true) ∧ Below w.heap.size w w' := by
 obtain ⟨x, rfl⟩ := hp
 have hlm : l.length ≤ (l ++ x).length := by rw [List.length_append]; omega
 have H1 := h1
 have H2 := h2
 obtain ⟨ao1, cap1, rfl, hc1⟩ := h1.form
 obtain ⟨ao2, cap2, rfl, hc2⟩ := h2.form
 simp only [ss_len] at *
 have hf : Sl w (.slice ao2 l.length cap2) (ss l) := by
  have h9 := Sl.front H2 l.length (by rw [ss_len]; exact hlm)
  have e9 : (ss (l ++ x)).take l.length = ss l := by unfold ss; rw [← List.map_take, List.take_left]
  rw [e9] at h9
  exact h9
 have q := Draw.same_true w _ _ l H1 hf (by omega)
 have d2 : (l.length : Int) ≤ (cap2 : Int) := by omega
 obtain ⟨N, hN⟩ : ∃ N, (l ++ x).length = N := ⟨_, rfl⟩
 rw [hN] at hlm ⊢
 have d1 : (l.length : Int) ≤ (N : Int) := by omega
 have d3 : decide ((l.length : Int) ≤ (N : Int)) = true := by simp [d1]
 clear H1 H2 hf h1 h2 hN hc2 hm
 go_enter Tryz.func19, Tryz.ntmps19
 go_wp2_with fail
 refine q.mono ?_
 rintro e w1 ⟨rfl, hb, _⟩
 go_wp2
 go_ret
 exact ⟨rfl, hb _⟩
set_option maxRecDepth 1000000 in
set_option maxHeartbeats 4000000 in
theorem drawStored_any (w : World) (vb : Value) (xs : List Int) (hs : Sl w vb (bs xs)) (hby : Byt xs) (hx : xs.length ≤ 140737488355328) :
  Calls Tryz.prog 20 #[vb] w fun e w' => ∃ (st : Sto) (A : Nat) (t : List Hd) (v u vt : Value), e = .returned (.tuple #[.agg #[v, .int .i64 st.h.n, .string st.h.r, u, .int .i64 st.s], vt]) ∧ Dst t A 0 st ∧ A ≤ 9 ∧ t.length ≤ 10 ∧ (∀ x ∈ t, x.r.size ≤ 32) ∧ Own w' w.heap.size w'.heap.size 9 v (ss st.l) ∧ Own w' w.heap.size w'.heap.size 5 u (bs st.b) ∧ Oh w' w.heap.size w'.heap.size vt t ∧ Below w.heap.size w w' := by
 have HS : Hid (Sl w vb (bs xs)) := hs
 obtain ⟨aob, capb, rfl, hcb⟩ := hs.form
 clear hs
 have B0 : Hid (Below w.heap.size w w) := Below.refl _ _
 obtain ⟨W1, HW1, b1, y1, hS1, r_res1⟩ : ∃ X, Hid ((w.alloc (.cells #[.slice none 0 0, .int .i64 0, .string ⟨#[]⟩, .slice none 0 0, .int .i64 0] 37)) = X) ∧ Below w.heap.size w X ∧ w.heap.size + 1 ≤ X.heap.size ∧ Hid (X.heap.size = w.heap.size + 1) ∧ Hid (X.heap[w.heap.size]? = some (.cells #[.slice none 0 0, .int .i64 0, .string ⟨#[]⟩, .slice none 0 0, .int .i64 0] 37 (0, 0))) := ⟨_, rfl, ((Below.refl _ _).alloc (Nat.le_refl _) _), by simp, by show _ = _; simp, (by show _ = _; exact alloc_nth1_0 w _)⟩
 have z1 : w.heap.size ≤ W1.heap.size := b1.size
 have B1 : Hid (Below w.heap.size w W1) := B0.out.trans (b1.mono B0.out.size)
 have c_res1_0 : W1.cell? ⟨w.heap.size, 0, none⟩ = some (.slice none 0 0) := row_at r_res1.out 0
 have c_res1_1 : W1.cell? ⟨w.heap.size, 1, none⟩ = some (.int .i64 0) := row_at r_res1.out 1
 have c_res1_2 : W1.cell? ⟨w.heap.size, 2, none⟩ = some (.string ⟨#[]⟩) := row_at r_res1.out 2
 have c_res1_3 : W1.cell? ⟨w.heap.size, 3, none⟩ = some (.slice none 0 0) := row_at r_res1.out 3
 have c_res1_4 : W1.cell? ⟨w.heap.size, 4, none⟩ = some (.int .i64 0) := row_at r_res1.out 4
 go_enter Tryz.func20, Tryz.ntmps20
 go_wp2_with fail
 rw [HW1.out]
 refine (new_any W1 _ xs (HS.out.later B1.out) hby hx).mono ?_
 rintro e W2 ⟨rfl, d2⟩
 have hcg : W1.heap.size < W2.heap.size := d2.cur.lt
 have HSW : Hid (Sl W1 (.slice aob (bs xs).length capb) (bs xs)) := (HS.out.later B1.out)
 have cu1 : Hid True := trivial
 have bw1 : Hid True := trivial
 have z2 : W1.heap.size ≤ W2.heap.size := d2.apart.size
 have B2 : Hid (Below w.heap.size w W2) := B1.out.trans (d2.below.mono B1.out.size)
 have cu2 : Hid (Cur W2 (W1.heap.size) (.slice aob (bs xs).length capb) xs.length) := d2.cur
 have bw2 : Hid (Below W1.heap.size W1 W2) := d2.below
 have r_res2 : Hid (W2.heap[w.heap.size]? = some (.cells #[.slice none 0 0, .int .i64 0, .string ⟨#[]⟩, .slice none 0 0, .int .i64 0] 37 (0, 0))) := drawn_row r_res1.out d2 (by omega)
 have c_res2_0 : W2.cell? ⟨w.heap.size, 0, none⟩ = some (.slice none 0 0) := row_at r_res2.out 0
 have c_res2_1 : W2.cell? ⟨w.heap.size, 1, none⟩ = some (.int .i64 0) := row_at r_res2.out 1
 have c_res2_2 : W2.cell? ⟨w.heap.size, 2, none⟩ = some (.string ⟨#[]⟩) := row_at r_res2.out 2
 have c_res2_3 : W2.cell? ⟨w.heap.size, 3, none⟩ = some (.slice none 0 0) := row_at r_res2.out 3
 have c_res2_4 : W2.cell? ⟨w.heap.size, 4, none⟩ = some (.int .i64 0) := row_at r_res2.out 4
 clear r_res1 c_res1_0 c_res1_1 c_res1_2 c_res1_3 c_res1_4
 clear cu1 bw1 d2
 go_wp2_with fail
 refine (draw12 W1 W2 (W1.heap.size) _ xs HSW.out hby hx bw2.out (Nat.le_refl _) cu2.out).mono ?_
 rintro e W3 ⟨st, all, t, v_v, v_u, v_a, v_t, rfl, hD, hA1, hA9, hAz, ht1, ht9, htz, o_v3, o_u3, o_a3, o_t3, d3⟩
 have z3 : W2.heap.size ≤ W3.heap.size := d3.apart.size
 have B3 : Hid (Below w.heap.size w W3) := B1.out.trans (d3.below.mono B1.out.size)
 have cu3 : Hid (Cur W3 (W1.heap.size) (.slice aob (bs xs).length capb) xs.length) := d3.cur
 have bw3 : Hid (Below W1.heap.size W1 W3) := d3.below
 have r_res3 : Hid (W3.heap[w.heap.size]? = some (.cells #[.slice none 0 0, .int .i64 0, .string ⟨#[]⟩, .slice none 0 0, .int .i64 0] 37 (0, 0))) := drawn_row r_res2.out d3 (by omega)
 have c_res3_0 : W3.cell? ⟨w.heap.size, 0, none⟩ = some (.slice none 0 0) := row_at r_res3.out 0
 have c_res3_1 : W3.cell? ⟨w.heap.size, 1, none⟩ = some (.int .i64 0) := row_at r_res3.out 1
 have c_res3_2 : W3.cell? ⟨w.heap.size, 2, none⟩ = some (.string ⟨#[]⟩) := row_at r_res3.out 2
 have c_res3_3 : W3.cell? ⟨w.heap.size, 3, none⟩ = some (.slice none 0 0) := row_at r_res3.out 3
 have c_res3_4 : W3.cell? ⟨w.heap.size, 4, none⟩ = some (.int .i64 0) := row_at r_res3.out 4
 clear r_res2 c_res2_0 c_res2_1 c_res2_2 c_res2_3 c_res2_4
 clear cu2 bw2 d3
 obtain ⟨ao_v, L_v, cap_v, rfl, _, _⟩ := Mem.Own.form o_v3
 have o_v3 : Hid (Own W3 W2.heap.size W3.heap.size 9 (.slice ao_v L_v cap_v) (ss st.l)) := o_v3
 obtain ⟨ao_u, L_u, cap_u, rfl, _, _⟩ := Mem.Own.form o_u3
 have o_u3 : Hid (Own W3 W2.heap.size W3.heap.size 5 (.slice ao_u L_u cap_u) (bs st.b)) := o_u3
 obtain ⟨ao_t, cap_t, rfl, _⟩ := (Oh.sh o_t3).form
 clear o_a3
 have f_t3 : Hid (Oht W3 W2.heap.size W3.heap.size (.slice ao_t t.length cap_t) t) := ⟨o_t3, Nat.le_refl _⟩
 clear o_t3
 clear cu3 bw3
 have a_res3_0 : ∀ o, (W3.alloc o).cell? ⟨w.heap.size, 0, none⟩ = some (.slice none 0 0) := fun o => keepR c_res3_0 ((Below.refl _ _).alloc (Nat.le_refl _) o)
 have a_res3_1 : ∀ o, (W3.alloc o).cell? ⟨w.heap.size, 1, none⟩ = some (.int .i64 0) := fun o => keepR c_res3_1 ((Below.refl _ _).alloc (Nat.le_refl _) o)
 have a_res3_2 : ∀ o, (W3.alloc o).cell? ⟨w.heap.size, 2, none⟩ = some (.string ⟨#[]⟩) := fun o => keepR c_res3_2 ((Below.refl _ _).alloc (Nat.le_refl _) o)
 have a_res3_3 : ∀ o, (W3.alloc o).cell? ⟨w.heap.size, 3, none⟩ = some (.slice none 0 0) := fun o => keepR c_res3_3 ((Below.refl _ _).alloc (Nat.le_refl _) o)
 have a_res3_4 : ∀ o, (W3.alloc o).cell? ⟨w.heap.size, 4, none⟩ = some (.int .i64 0) := fun o => keepR c_res3_4 ((Below.refl _ _).alloc (Nat.le_refl _) o)
 obtain ⟨W4, HW4, b4, y4, hS4, r_x4⟩ : ∃ X, Hid ((W3.alloc (.cells #[.slice ao_v L_v cap_v, .int .i64 st.h.n, .string st.h.r, .slice ao_u L_u cap_u, .int .i64 st.s] 37)) = X) ∧ Below W3.heap.size W3 X ∧ W3.heap.size + 1 ≤ X.heap.size ∧ Hid (X.heap.size = W3.heap.size + 1) ∧ Hid (X.heap[W3.heap.size]? = some (.cells #[.slice ao_v L_v cap_v, .int .i64 st.h.n, .string st.h.r, .slice ao_u L_u cap_u, .int .i64 st.s] 37 (0, 0))) := ⟨_, rfl, ((Below.refl _ _).alloc (Nat.le_refl _) _), by simp, by show _ = _; simp, (by show _ = _; exact alloc_nth1_0 W3 _)⟩
 have z4 : W3.heap.size ≤ W4.heap.size := b4.size
 have B4 : Hid (Below w.heap.size w W4) := B3.out.trans (b4.mono B3.out.size)
 have r_res4 : Hid (W4.heap[w.heap.size]? = some (.cells #[.slice none 0 0, .int .i64 0, .string ⟨#[]⟩, .slice none 0 0, .int .i64 0] 37 (0, 0))) := rowKeep r_res3.out b4
 have o_v4 : Hid (Own W4 (W2.heap.size) (W3.heap.size) 9 (.slice ao_v L_v cap_v) (ss st.l)) := Own.later o_v3.out b4 (by omega)
 have o_u4 : Hid (Own W4 (W2.heap.size) (W3.heap.size) 5 (.slice ao_u L_u cap_u) (bs st.b)) := Own.later o_u3.out b4 (by omega)
 have c_res4_0 : W4.cell? ⟨w.heap.size, 0, none⟩ = some (.slice none 0 0) := row_at r_res4.out 0
 have c_res4_1 : W4.cell? ⟨w.heap.size, 1, none⟩ = some (.int .i64 0) := row_at r_res4.out 1
 have c_res4_2 : W4.cell? ⟨w.heap.size, 2, none⟩ = some (.string ⟨#[]⟩) := row_at r_res4.out 2
 have c_res4_3 : W4.cell? ⟨w.heap.size, 3, none⟩ = some (.slice none 0 0) := row_at r_res4.out 3
 have c_res4_4 : W4.cell? ⟨w.heap.size, 4, none⟩ = some (.int .i64 0) := row_at r_res4.out 4
 have c_x4_0 : W4.cell? ⟨W3.heap.size, 0, none⟩ = some (.slice ao_v L_v cap_v) := row_at r_x4.out 0
 have c_x4_1 : W4.cell? ⟨W3.heap.size, 1, none⟩ = some (.int .i64 st.h.n) := row_at r_x4.out 1
 have c_x4_2 : W4.cell? ⟨W3.heap.size, 2, none⟩ = some (.string st.h.r) := row_at r_x4.out 2
 have c_x4_3 : W4.cell? ⟨W3.heap.size, 3, none⟩ = some (.slice ao_u L_u cap_u) := row_at r_x4.out 3
 have c_x4_4 : W4.cell? ⟨W3.heap.size, 4, none⟩ = some (.int .i64 st.s) := row_at r_x4.out 4
 clear r_res3 c_res3_0 c_res3_1 c_res3_2 c_res3_3 c_res3_4 o_v3 o_u3
 have f_t4 : Hid (Oht W4 W2.heap.size W3.heap.size (.slice ao_t t.length cap_t) t) := Oht.later f_t3.out b4
 clear f_t3
 go_wp2_with (first | ((try rw [HW4.out]); refine wpList_load_row rfl 37 _ rfl (W3.heap.size) rfl 37 (sc (.slice ao_v L_v cap_v) st.h (.slice ao_u L_u cap_u) st.s) (0, 0) _ r_x4.out Tryz.underlying37 rfl (sizeS _ _ _ _) ?_) | (refine wpList_store_row rfl 37 _ _ rfl (w.heap.size) (sc (.slice ao_v L_v cap_v) st.h (.slice ao_u L_u cap_u) st.s) rfl rfl 37 _ r_res4.out (sizeS _ _ _ _) rfl (oneS _ _ rfl rfl) ?_))
 refine bodyPost_ret (res_row_tmp rfl _ _ (w.heap.size) 37 (sc (.slice ao_v L_v cap_v) st.h (.slice ao_u L_u cap_u) st.s) (0, 0) _ rfl (setRow_heap _ _ _ _ _ (0, 0) r_res4.out) Tryz.underlying37 rfl (sizeS _ _ _ _)) rfl ⟨st, all.length, t, .slice ao_v L_v cap_v, .slice ao_u L_u cap_u, .slice ao_t t.length cap_t, rfl, hD, hA9, ht9, htz, ?_, ?_, ?_, below_setRow B4.out (by omega) _⟩
 ·
  exact (Own.setRow o_v4.out _ (by omega)).mono (by omega) (by rw [size_setRow]; omega)
 ·
  exact (Own.setRow o_u4.out _ (by omega)).mono (by omega) (by rw [size_setRow]; omega)
 ·
  exact On.mono (On.keep f_t4.out.1 fun k9 h8 h9 => setRow_other _ _ _ _ (by omega)) (by omega) (by rw [size_setRow]; have := f_t4.out.2; omega)
set_option maxRecDepth 1000000 in
set_option maxHeartbeats 16000000 in
theorem recov12 (w : World) (v0 : Value) (xs0 : List Int) (h0 : Sl w v0 (bs xs0)) (y0 : Byt xs0) (m0 : xs0.length ≤ maxLen)
  (iFall : ∀ W, Below w.heap.size w W → ∀ (v1 v2 : Value) (st : Sto) (keep : Int), Sl W v1 (ss st.l) → Sl W v2 (bs st.b) → Byt st.b → st.l.length ≤ 1000 → st.b.length ≤ 100000 → 0 ≤ st.s → st.s ≤ 100000 → 0 ≤ keep → keep ≤ 100000 → Calls Tryz.prog 21 #[.agg #[v1, .int .i64 st.h.n, .string st.h.r, v2, .int .i64 st.s], .int .i64 keep] W fun e w' => ∃ u, e = .returned u ∧ Own w' W.heap.size w'.heap.size 5 u (bs (fall st keep)) ∧ Below W.heap.size W w')
  (iOpen : ∀ W, Below w.heap.size w W → ∀ (v1 v2 : Value) (t : List Hd) (b : List Int), Sh W v1 t → Sl W v2 (bs b) → Byt b → t.length ≤ 1000 → (∀ n ∈ t, n.r.size ≤ 1000) → b.length ≤ 100000 → Calls Tryz.prog 18 #[v1, v2] W fun e w' => ∃ u ub, e = .returned (.tuple #[.agg #[u, .int .i64 (openS t b).1.h.n, .string (openS t b).1.h.r, ub, .int .i64 (openS t b).1.s], .int .i64 ((openS t b).2 : Int)]) ∧ Own w' W.heap.size w'.heap.size 9 u (ss (openS t b).1.l) ∧ Own w' W.heap.size w'.heap.size 5 ub (bs (openS t b).1.b) ∧ Below W.heap.size W w')
  (iSure : ∀ W, Below w.heap.size w W → ∀ (v1 v2 : Value) (st : Sto), Sl W v1 (ss st.l) → Sl W v2 (bs st.b) → Byt st.b → st.l.length ≤ 1000 → st.b.length ≤ 100000 → (∀ s ∈ st.l, s.size ≤ 1000) → st.h.r.size ≤ 1000 → Calls Tryz.prog 23 #[.agg #[v1, .int .i64 st.h.n, .string st.h.r, v2, .int .i64 st.s]] W fun e w' => ∃ u ub, e = .returned (.agg #[u, .int .i64 (makeSure st).h.n, .string (makeSure st).h.r, ub, .int .i64 (makeSure st).s]) ∧ Own w' W.heap.size w'.heap.size 9 u (ss (makeSure st).l) ∧ Own w' W.heap.size w'.heap.size 5 ub (bs (makeSure st).b) ∧ Below W.heap.size W w')
  (iSOk : ∀ W, Below w.heap.size w W → ∀ (v1 v2 : Value) (st : Sto), Sl W v1 (ss st.l) → Sl W v2 (bs st.b) → Byt st.b → st.l.length ≤ 1000 → st.b.length ≤ 100000 → (∀ s ∈ st.l, s.size ≤ 1000) → st.h.r.size ≤ 1000 → Calls Tryz.prog 15 #[.agg #[v1, .int .i64 st.h.n, .string st.h.r, v2, .int .i64 st.s]] W fun e w' => e = .returned (.bool (storeOk st)) ∧ Below W.heap.size W w') :
  Calls Tryz.prog 5 #[v0] w fun e w' => e = .returned (.bool true) ∧ Below w.heap.size w w' := by
 have hs := h0
 have hby := y0
 obtain ⟨ao0, cap0, rfl, -, -, -⟩ := h0
 rw [Mem.bs_len] at hs ⊢
 clear m0 y0
 by_cases hbig : 1048576 < xs0.length
 ·
  have qb := big_yes w ao0 xs0.length cap0 hbig
  clear iFall iOpen iSure iSOk
  go_enter Tryz.func5, Tryz.ntmps5
  go_wp2_with fail
  refine qb.mono ?_
  rintro e w1 ⟨rfl, rfl⟩
  go_wp2
  go_ret
  exact ⟨rfl, Below.refl _ _⟩
 have qb := big_no w ao0 xs0.length cap0 hbig
 have qd : ∀ W, Below w.heap.size w W → _ := fun W hW => drawStored_any W _ xs0 (hs.later hW) hby (by omega)
 obtain ⟨m, hm⟩ : ∃ m, atV xs0 2 = m := ⟨_, rfl⟩
 have hm255 : m ≤ 255 := by rw [← hm]; exact atV_le hby 2
 have qa : ∀ W, Below w.heap.size w W → Calls Tryz.prog 22 #[.slice ao0 xs0.length cap0, .int .i64 2] W fun e w' => e = .returned (.int .i64 (m : Int)) ∧ Below W.heap.size W w' := fun W hW => by
  have q := at_val W _ xs0 2 (hs.later hW) hby (by omega) (by omega)
  rw [hm] at q
  refine q.mono ?_
  rintro e w' ⟨h1, rfl⟩
  exact ⟨h1, Below.refl _ _⟩
 have HS : Hid (Sl w (.slice ao0 xs0.length cap0) (bs xs0)) := hs
 clear hbig hs hby hm
 have B0 : Hid (Below w.heap.size w w) := Below.refl _ _
 go_enter Tryz.func5, Tryz.ntmps5
 go_wp2_with fail
 refine qb.mono ?_
 rintro e W_ ⟨rfl, hW_⟩
 subst hW_
 clear qb
 go_wp2_with fail
 refine (qd w B0.out).mono ?_
 rintro e W1 ⟨st, A, t, v_v, v_u, v_t, rfl, hD, hA9, ht9, htz, o_v1, o_u1, o_t1, b1⟩
 obtain ⟨lo_v, hi_v, lo_u, hi_u, d1_v, d2_v, d3_v, d4_v, d5_v, d6_v, d7_v, oo_v, oo_u⟩ := Sr.pairN o_v1 o_u1 b1.size
 clear o_v1 o_u1
 obtain ⟨ao_v, L_v, cap_v, rfl, _, _⟩ := oo_v.form
 obtain ⟨ao_u, L_u, cap_u, rfl, _, _⟩ := oo_u.form
 have o_v1 : Hid (Own W1 lo_v hi_v 9 (.slice ao_v L_v cap_v) (ss st.l)) := oo_v
 have o_u1 : Hid (Own W1 lo_u hi_u 5 (.slice ao_u L_u cap_u) (bs st.b)) := oo_u
 clear oo_v oo_u
 obtain ⟨ao_t, cap_t, rfl, _⟩ := (Oh.sh o_t1).form
 have sh_t1 := Oh.sh o_t1
 clear o_t1
 have z1 : w.heap.size ≤ W1.heap.size := b1.size
 have B1 : Hid (Below w.heap.size w W1) := B0.out.trans (b1.mono B0.out.size)
 have f_t1 : Hid (Sh W1 (.slice ao_t t.length cap_t) t) := sh_t1
 clear sh_t1
 obtain ⟨W2, HW2, b2, y2, hS2, r_s2⟩ : ∃ X, Hid ((W1.alloc (.cells #[.slice ao_v L_v cap_v, .int .i64 st.h.n, .string st.h.r, .slice ao_u L_u cap_u, .int .i64 st.s] 37)) = X) ∧ Below W1.heap.size W1 X ∧ W1.heap.size + 1 ≤ X.heap.size ∧ Hid (X.heap.size = W1.heap.size + 1) ∧ Hid (X.heap[W1.heap.size]? = some (.cells #[.slice ao_v L_v cap_v, .int .i64 st.h.n, .string st.h.r, .slice ao_u L_u cap_u, .int .i64 st.s] 37 (0, 0))) := ⟨_, rfl, ((Below.refl _ _).alloc (Nat.le_refl _) _), by simp, by show _ = _; simp, (by show _ = _; exact alloc_nth1_0 W1 _)⟩
 have z2 : W1.heap.size ≤ W2.heap.size := b2.size
 have B2 : Hid (Below w.heap.size w W2) := B1.out.trans (b2.mono B1.out.size)
 have o_v2 : Hid (Own W2 (lo_v) (hi_v) 9 (.slice ao_v L_v cap_v) (ss st.l)) := Own.later o_v1.out b2 (by omega)
 have o_u2 : Hid (Own W2 (lo_u) (hi_u) 5 (.slice ao_u L_u cap_u) (bs st.b)) := Own.later o_u1.out b2 (by omega)
 have c_s2_0 : W2.cell? ⟨W1.heap.size, 0, none⟩ = some (.slice ao_v L_v cap_v) := row_at r_s2.out 0
 have c_s2_1 : W2.cell? ⟨W1.heap.size, 1, none⟩ = some (.int .i64 st.h.n) := row_at r_s2.out 1
 have c_s2_2 : W2.cell? ⟨W1.heap.size, 2, none⟩ = some (.string st.h.r) := row_at r_s2.out 2
 have c_s2_3 : W2.cell? ⟨W1.heap.size, 3, none⟩ = some (.slice ao_u L_u cap_u) := row_at r_s2.out 3
 have c_s2_4 : W2.cell? ⟨W1.heap.size, 4, none⟩ = some (.int .i64 st.s) := row_at r_s2.out 4
 clear o_v1 o_u1
 have f_t2 : Hid (Sh W2 (.slice ao_t t.length cap_t) t) := Sh.later f_t1.out b2
 clear f_t1
 obtain ⟨p1, p2, p3, p4, p5, p6, p7⟩ := recov hD m
 have hby := hD.made.1.2.2
 have hbl := hD.bl
 have hln := hD.len
 have hhr := hD.head
 have hs0 := hD.lo
 have hs1 := hD.hi
 have hsz : ∀ s ∈ st.l, s.size ≤ 1000 := fun s h9 => Nat.le_trans (hD.sz s h9) (by omega)
 have htz2 : ∀ x ∈ t, x.r.size ≤ 1000 := fun x h9 => Nat.le_trans (htz x h9) (by omega)
 have hfb : ∀ k, Byt (fall st k) := fun k y hy => hby y (List.mem_of_mem_take hy)
 have hfl : ∀ k, (fall st k).length ≤ 60000 := fun k => by unfold fall; rw [List.length_take]; omega
 have hms : (makeSure st).l = st.l ∧ (makeSure st).h = st.h ∧ (makeSure st).b = st.b ∧ (makeSure st).s = (st.b.length : Int) := by unfold makeSure; rw [if_pos p1]; exact ⟨rfl, rfl, rfl, rfl⟩
 have hfb2 : Byt (fall (makeSure st) 0) := fun y hy => by unfold fall at hy; rw [hms.2.2.1] at hy; exact hby y (List.mem_of_mem_take hy)
 have hfl2 : (fall (makeSure st) 0).length ≤ 60000 := by unfold fall; rw [List.length_take, hms.2.2.1]; omega
 obtain ⟨u1, u2, u3⟩ := open_small t (hfb (m : Int))
 obtain ⟨e1, e2, e3⟩ := open_small t (hfb 0)
 obtain ⟨k1, k2, k3⟩ := open_small t hfb2
 have qf1 : ∀ W v1 v2, Below w.heap.size w W → Sl W v1 (ss st.l) → Sl W v2 (bs st.b) → _ := fun W v1 v2 hW h1 h2 => iFall W hW v1 v2 st (m : Int) h1 h2 hby (by omega) (by omega) hs0 (by omega) (by omega) (by omega)
 have qo1 : ∀ W v1 v2, Below w.heap.size w W → Sh W v1 t → Sl W v2 (bs (fall st (m : Int))) → _ := fun W v1 v2 hW h1 h2 => iOpen W hW v1 v2 t (fall st (m : Int)) h1 h2 (hfb _) (by omega) htz2 (by have := hfl (m : Int); omega)
 have qf2 : ∀ W v1 v2, Below w.heap.size w W → Sl W v1 (ss st.l) → Sl W v2 (bs st.b) → _ := fun W v1 v2 hW h1 h2 => iFall W hW v1 v2 st 0 h1 h2 hby (by omega) (by omega) hs0 (by omega) (by omega) (by omega)
 have qo2 : ∀ W v1 v2, Below w.heap.size w W → Sh W v1 t → Sl W v2 (bs (fall st 0)) → _ := fun W v1 v2 hW h1 h2 => iOpen W hW v1 v2 t (fall st 0) h1 h2 (hfb _) (by omega) htz2 (by have := hfl 0; omega)
 have qm : ∀ W v1 v2, Below w.heap.size w W → Sl W v1 (ss st.l) → Sl W v2 (bs st.b) → _ := fun W v1 v2 hW h1 h2 => iSure W hW v1 v2 st h1 h2 hby (by omega) (by omega) hsz (by omega)
 simp only [hms.1, hms.2.1, hms.2.2.1, hms.2.2.2] at qm
 have qf3 : ∀ W v1 v2, Below w.heap.size w W → Sl W v1 (ss st.l) → Sl W v2 (bs st.b) → Calls Tryz.prog 21 #[.agg #[v1, .int .i64 st.h.n, .string st.h.r, v2, .int .i64 (st.b.length : Int)], .int .i64 0] W fun e w' => ∃ u, e = .returned u ∧ Own w' W.heap.size w'.heap.size 5 u (bs (fall (makeSure st) 0)) ∧ Below W.heap.size W w' := fun W v1 v2 hW h1 h2 => by
  have h9 := iFall W hW v1 v2 (makeSure st) 0 (by rw [hms.1]; exact h1) (by rw [hms.2.2.1]; exact h2) (by rw [hms.2.2.1]; exact hby) (by rw [hms.1]; omega) (by rw [hms.2.2.1]; omega) (by rw [hms.2.2.2]; omega) (by rw [hms.2.2.2]; omega) (by omega) (by omega)
  rw [hms.2.1, hms.2.2.2] at h9
  exact h9
 have qo3 : ∀ W v1 v2, Below w.heap.size w W → Sh W v1 t → Sl W v2 (bs (fall (makeSure st) 0)) → _ := fun W v1 v2 hW h1 h2 => iOpen W hW v1 v2 t (fall (makeSure st) 0) h1 h2 hfb2 (by omega) htz2 (by omega)
 have qk1 : ∀ W v1 v2, Below w.heap.size w W → Sl W v1 (ss st.l) → Sl W v2 (bs st.b) → _ := fun W v1 v2 hW h1 h2 => iSOk W hW v1 v2 st h1 h2 hby (by omega) (by omega) hsz (by omega)
 simp only [p1] at qk1
 have hUz : ∀ s ∈ (openS t (fall st (m : Int))).1.l, s.size ≤ 1000 := fun s h9 => hsz s (p5.subset h9)
 have hUb : Byt (openS t (fall st (m : Int))).1.b := (ok_good_byt t (hfb (m : Int)))
 have qk2 : ∀ W v1 v2, Below w.heap.size w W → Sl W v1 (ss (openS t (fall st (m : Int))).1.l) → Sl W v2 (bs (openS t (fall st (m : Int))).1.b) → _ := fun W v1 v2 hW h1 h2 => iSOk W hW v1 v2 (openS t (fall st (m : Int))).1 h1 h2 hUb (by omega) (by omega) hUz (by omega)
 simp only [p2] at qk2
 obtain ⟨F1, hF1⟩ : ∃ F, fall st (m : Int) = F := ⟨_, rfl⟩
 obtain ⟨F2, hF2⟩ : ∃ F, fall st 0 = F := ⟨_, rfl⟩
 obtain ⟨F3, hF3⟩ : ∃ F, fall (makeSure st) 0 = F := ⟨_, rfl⟩
 simp only [hF1] at qf1 qo1 qk2 p3 p4 p5 u1 u2 u3
 simp only [hF2] at qf2 qo2 p4 e1 e2 e3
 simp only [hF3] at qf3 qo3 p6 p7 k1 k2 k3
 obtain ⟨⟨l1, hd1, b_1, s1⟩, c1, hO1⟩ : ∃ S c, openS t F1 = (S, c) := ⟨_, _, rfl⟩
 obtain ⟨⟨l2, hd2, b_2, s2⟩, c2, hO2⟩ : ∃ S c, openS t F2 = (S, c) := ⟨_, _, rfl⟩
 obtain ⟨⟨l3, hd3, b_3, s3⟩, c3, hO3⟩ : ∃ S c, openS t F3 = (S, c) := ⟨_, _, rfl⟩
 simp only [hO1] at qo1 qk2 p3 p4 p5 u1 u2 u3
 simp only [hO2] at qo2 p4 e1 e2 e3
 simp only [hO3] at qo3 p6 p7 k1 k2 k3
 have P4 : Hid (l2 <+: l1) := p4
 have P5 : Hid (l1 <+: st.l) := p5
 subst p6 p7
 have P3 : Hid (s1 = (b_1.length : Int)) := p3
 clear p1 p2 p3 p4 p5 hO1 hO2 hO3 hF1 hF2 hF3 hms hfb hfl hUz hUb hfb2 hfl2 htz2 hsz htz hD iFall iOpen iSure iSOk
 go_upto_region 4 with fail
 rw [HW2.out]
 go_cut [5, 6] (fun s5 s6 wx => ∃ g : Nat, s5 = (.pointer (some ⟨g, 0, none⟩)) ∧ s6 = .int .i64 (c1 : Int) ∧ W2.heap.size ≤ g ∧ g < wx.heap.size ∧ Below W2.heap.size W2 wx ∧ ∃ lo_x hi_x ao_x L_x cap_x lo_xp hi_xp ao_xp L_xp cap_xp, W2.heap.size ≤ lo_x ∧ lo_x ≤ hi_x ∧ hi_x ≤ wx.heap.size ∧ W2.heap.size ≤ lo_xp ∧ lo_xp ≤ hi_xp ∧ hi_xp ≤ wx.heap.size ∧ (hi_x ≤ lo_xp ∨ hi_xp ≤ lo_x) ∧ Own wx lo_x hi_x 9 (.slice ao_x L_x cap_x) (ss l1) ∧ Own wx lo_xp hi_xp 5 (.slice ao_xp L_xp cap_xp) (bs b_1) ∧ (g < lo_x ∨ hi_x ≤ g) ∧ (g < lo_xp ∨ hi_xp ≤ g) ∧ wx.heap[g]? = some (.cells #[.slice ao_x L_x cap_x, .int .i64 hd1.n, .string hd1.r, .slice ao_xp L_xp cap_xp, .int .i64 s1] 37 (0, 0)))
 case first =>
  have D2 : Hid (Below W2.heap.size W2 W2) := Below.refl _ _
  refine wp_region_held_drew (S := fun w' => w'.cell? ⟨W1.heap.size, 0, none⟩ = some (.slice ao_v L_v cap_v) ∧ w'.cell? ⟨W1.heap.size, 1, none⟩ = some (.int .i64 st.h.n) ∧ w'.cell? ⟨W1.heap.size, 2, none⟩ = some (.string st.h.r) ∧ w'.cell? ⟨W1.heap.size, 3, none⟩ = some (.slice ao_u L_u cap_u) ∧ w'.cell? ⟨W1.heap.size, 4, none⟩ = some (.int .i64 st.s)) (by kernel_rfl) ⟨c_s2_0, c_s2_1, c_s2_2, c_s2_3, c_s2_4⟩ (fun hHeld => ?_)
  (refine wpAnyH_take (i := 0) (v := ?v0x71) rfl (by kernel_rfl) (by kernel_rfl) (by kernel_rfl) (fun _ _ _ h => h) (Or.inl ⟨by rfl, ?hy0x71⟩) (by assumption) ?rest0x71; case hy0x71 => (intro w hSw; (try dsimp only at hSw); go_split_ands; go_simp; (try with_reducible rfl)))
  try simp only [Act.put, pu1, pu2, pu3, pu4, pu5, pu6]
  (refine wpAnyH_take (i := 1) (v := ?v1x72) rfl (by kernel_rfl) (by kernel_rfl) (by kernel_rfl) (fun _ _ _ h => h) (Or.inl ⟨by rfl, ?hy1x72⟩) (by assumption) ?rest1x72; case hy1x72 => (intro w hSw; (try dsimp only at hSw); go_split_ands; go_simp; (try with_reducible rfl)))
  try simp only [Act.put, pu1, pu2, pu3, pu4, pu5, pu6]
  (refine wpAnyH_take (i := 2) (v := ?v2x73) rfl (by kernel_rfl) (by kernel_rfl) (by kernel_rfl) (fun _ _ _ h => h) (Or.inl ⟨by rfl, ?hy2x73⟩) (by assumption) ?rest2x73; case hy2x73 => (intro w hSw; (try dsimp only at hSw); go_split_ands; go_simp; (try with_reducible rfl)))
  try simp only [Act.put, pu1, pu2, pu3, pu4, pu5, pu6]
  refine chain3 3 4 5 9 (fun aA xA aB wB => aB = aA.put (some 5) xA ∧ Below W2.heap.size W2 wB ∧ (∀ g : Nat, xA = (.pointer (some ⟨g, 0, none⟩)) → W2.heap.size ≤ g ∧ g < wB.heap.size ∧ wB.heap[g]? = some (.cells #[.slice none 0 0, .int .i64 0, .string ⟨#[]⟩, .slice none 0 0, .int .i64 0] 37 (0, 0)))) (fun aA xA aB wB => aB = (aA.put (some 22) (.int .i64 (m : Int))).put (some 5) xA ∧ Below W2.heap.size W2 wB ∧ (∀ g : Nat, xA = (.pointer (some ⟨g, 0, none⟩)) → W2.heap.size ≤ g ∧ g < wB.heap.size ∧ wB.heap[g]? = some (.cells #[.slice none 0 0, .int .i64 0, .string ⟨#[]⟩, .slice none 0 0, .int .i64 0] 37 (0, 0)))) (fun aA xA aB wB => ∃ (u1x : Value), aB = ((aA.put (some 22) (.int .i64 (m : Int))).put (some 23) (u1x)).put (some 5) xA ∧ Below W2.heap.size W2 wB ∧ Sl wB u1x (bs F1) ∧ (∀ g : Nat, xA = (.pointer (some ⟨g, 0, none⟩)) → W2.heap.size ≤ g ∧ g < wB.heap.size ∧ wB.heap[g]? = some (.cells #[.slice none 0 0, .int .i64 0, .string ⟨#[]⟩, .slice none 0 0, .int .i64 0] 37 (0, 0)))) (fun aA xA aB wB => ∃ (u1x : Value) (lo_x hi_x lo_xp hi_xp : Nat) (ao_x : Option Addr) (L_x cap_x : Nat) (ao_xp : Option Addr) (L_xp cap_xp : Nat), aB = (((aA.put (some 22) (.int .i64 (m : Int))).put (some 23) (u1x)).put (some 24) (.tuple #[.agg #[.slice ao_x L_x cap_x, .int .i64 hd1.n, .string hd1.r, .slice ao_xp L_xp cap_xp, .int .i64 s1], .int .i64 (c1 : Int)])).put (some 5) xA ∧ Below W2.heap.size W2 wB ∧ W2.heap.size ≤ lo_x ∧ lo_x ≤ hi_x ∧ hi_x ≤ wB.heap.size ∧ W2.heap.size ≤ lo_xp ∧ lo_xp ≤ hi_xp ∧ hi_xp ≤ wB.heap.size ∧ (hi_x ≤ lo_xp ∨ hi_xp ≤ lo_x) ∧ Own wB lo_x hi_x 9 (.slice ao_x L_x cap_x) (ss l1) ∧ Own wB lo_xp hi_xp 5 (.slice ao_xp L_xp cap_xp) (bs b_1) ∧ (∀ g : Nat, xA = (.pointer (some ⟨g, 0, none⟩)) → W2.heap.size ≤ g ∧ g < wB.heap.size ∧ wB.heap[g]? = some (.cells #[.slice none 0 0, .int .i64 0, .string ⟨#[]⟩, .slice none 0 0, .int .i64 0] 37 (0, 0)) ∧ (g < lo_x ∨ hi_x ≤ g) ∧ (g < lo_xp ∨ hi_xp ≤ g))) (by decide) (by decide) (by decide) (by kernel_rfl) (by kernel_rfl) (by kernel_rfl) (by kernel_rfl) (by kernel_rfl) (by kernel_rfl) ?hC0x4 ?hC1x4 ?hC2x4 ?hA0x4 ?hA1x4 ?hA2x4 ?tJx4 ?tKx4 ?h0x4 hHeld
  case hC0x4 =>
   rintro xA a1 wq ⟨rfl, hD, hx⟩ hHeld
   have hBw : Below w.heap.size w wq := B2.out.trans (hD.mono B2.out.size)
   refine wpOp_weak rfl (fun K hK => ?_)
   try simp only [Act.put, pu1, pu2, pu3, pu4, pu5, pu6]
   go_simp
   refine (qa wq hBw).mono ?_
   rintro e w2 ⟨rfl, b2⟩
   refine hK.out _ _ ⟨⟨(keepR (W := wq) hHeld.1 b2), (keepR (W := wq) hHeld.2.1 b2), (keepR (W := wq) hHeld.2.2.1 b2), (keepR (W := wq) hHeld.2.2.2.1 b2), (keepR (W := wq) hHeld.2.2.2.2 b2)⟩, rfl, hD.trans (b2.mono hD.size), fun g hg => ?_⟩
   obtain ⟨g1, g2, g3⟩ := hx g hg
   exact ⟨g1, by have := b2.size; omega, rowKeep g3 b2⟩
  case hC1x4 =>
   rintro xA a1 wq ⟨rfl, hD, hx⟩ hHeld
   have hBw : Below w.heap.size w wq := B2.out.trans (hD.mono B2.out.size)
   refine wpOp_weak rfl (fun K hK => ?_)
   try simp only [Act.put, pu1, pu2, pu3, pu4, pu5, pu6]
   go_simp
   refine (qf1 wq _ _ hBw (o_v2.out.sl.later hD) (o_u2.out.sl.later hD)).mono ?_
   rintro e w2 ⟨u1x, rfl, q5, b2⟩
   refine hK.out _ _ ⟨⟨(keepR (W := wq) hHeld.1 b2), (keepR (W := wq) hHeld.2.1 b2), (keepR (W := wq) hHeld.2.2.1 b2), (keepR (W := wq) hHeld.2.2.2.1 b2), (keepR (W := wq) hHeld.2.2.2.2 b2)⟩, u1x, rfl, hD.trans (b2.mono hD.size), q5.sl, fun g hg => ?_⟩
   obtain ⟨g1, g2, g3⟩ := hx g hg
   exact ⟨g1, by have := b2.size; omega, rowKeep g3 b2⟩
  case hC2x4 =>
   rintro xA a1 wq ⟨u1x, rfl, hD, hf0, hx⟩ hHeld
   have hBw : Below w.heap.size w wq := B2.out.trans (hD.mono B2.out.size)
   refine wpOp_weak rfl (fun K hK => ?_)
   try simp only [Act.put, pu1, pu2, pu3, pu4, pu5, pu6]
   go_simp
   refine (qo1 wq _ _ hBw (f_t2.out.later hD) hf0).mono ?_
   rintro e w2 ⟨v_x, v_xp, rfl, q9, q5, b2⟩
   obtain ⟨lo_x, hi_x, lo_xp, hi_xp, y1, y2, y3, y4, y5, y6, y7, oo_x, oo_xp⟩ := pairN q9 q5 b2.size
   obtain ⟨ao_x, L_x, cap_x, rfl, _, _⟩ := oo_x.form
   obtain ⟨ao_xp, L_xp, cap_xp, rfl, _, _⟩ := oo_xp.form
   have hzq := b2.size
   have hzd := hD.size
   refine hK.out _ _ ⟨⟨(keepR (W := wq) hHeld.1 b2), (keepR (W := wq) hHeld.2.1 b2), (keepR (W := wq) hHeld.2.2.1 b2), (keepR (W := wq) hHeld.2.2.2.1 b2), (keepR (W := wq) hHeld.2.2.2.2 b2)⟩, u1x, lo_x, hi_x, lo_xp, hi_xp, ao_x, L_x, cap_x, ao_xp, L_xp, cap_xp, rfl, hD.trans (b2.mono hD.size), by omega, by omega, by omega, by omega, by omega, by omega, by omega, oo_x, oo_xp, fun g hg => ?_⟩
   obtain ⟨g1, g2, g3⟩ := hx g hg
   exact ⟨g1, by omega, rowKeep g3 b2, by omega, by omega⟩
  case hA0x4 =>
   rintro a1 wq ⟨rfl, hD, hx⟩ hHeld
   refine wpOp_weak rfl (fun K hK => ?_)
   try simp only [Act.put, pu1, pu2, pu3, pu4, pu5, pu6]
   go_simp
   refine hK.out _ _ ⟨⟨(keepR (W := wq) hHeld.1 ((Below.refl _ _).alloc (Nat.le_refl _) _)), (keepR (W := wq) hHeld.2.1 ((Below.refl _ _).alloc (Nat.le_refl _) _)), (keepR (W := wq) hHeld.2.2.1 ((Below.refl _ _).alloc (Nat.le_refl _) _)), (keepR (W := wq) hHeld.2.2.2.1 ((Below.refl _ _).alloc (Nat.le_refl _) _)), (keepR (W := wq) hHeld.2.2.2.2 ((Below.refl _ _).alloc (Nat.le_refl _) _))⟩, wq.heap.size, rfl, hD.alloc hD.size _, fun g hg => ?_⟩
   obtain rfl : wq.heap.size = g := by simpa using hg
   exact ⟨hD.size, by simp, heap_alloc_new wq _⟩
  case hA1x4 =>
   rintro a1 wq ⟨rfl, hD, hx⟩ hHeld
   refine wpOp_weak rfl (fun K hK => ?_)
   try simp only [Act.put, pu1, pu2, pu3, pu4, pu5, pu6]
   go_simp
   refine hK.out _ _ ⟨⟨(keepR (W := wq) hHeld.1 ((Below.refl _ _).alloc (Nat.le_refl _) _)), (keepR (W := wq) hHeld.2.1 ((Below.refl _ _).alloc (Nat.le_refl _) _)), (keepR (W := wq) hHeld.2.2.1 ((Below.refl _ _).alloc (Nat.le_refl _) _)), (keepR (W := wq) hHeld.2.2.2.1 ((Below.refl _ _).alloc (Nat.le_refl _) _)), (keepR (W := wq) hHeld.2.2.2.2 ((Below.refl _ _).alloc (Nat.le_refl _) _))⟩, wq.heap.size, rfl, hD.alloc hD.size _, fun g hg => ?_⟩
   obtain rfl : wq.heap.size = g := by simpa using hg
   exact ⟨hD.size, by simp, heap_alloc_new wq _⟩
  case hA2x4 =>
   rintro a1 wq ⟨u1x, rfl, hD, hf0, hx⟩ hHeld
   refine wpOp_weak rfl (fun K hK => ?_)
   try simp only [Act.put, pu1, pu2, pu3, pu4, pu5, pu6]
   go_simp
   refine hK.out _ _ ⟨⟨(keepR (W := wq) hHeld.1 ((Below.refl _ _).alloc (Nat.le_refl _) _)), (keepR (W := wq) hHeld.2.1 ((Below.refl _ _).alloc (Nat.le_refl _) _)), (keepR (W := wq) hHeld.2.2.1 ((Below.refl _ _).alloc (Nat.le_refl _) _)), (keepR (W := wq) hHeld.2.2.2.1 ((Below.refl _ _).alloc (Nat.le_refl _) _)), (keepR (W := wq) hHeld.2.2.2.2 ((Below.refl _ _).alloc (Nat.le_refl _) _))⟩, wq.heap.size, u1x, rfl, hD.alloc hD.size _, Sl.later hf0 ((Below.refl _ _).alloc (Nat.le_refl _) _), fun g hg => ?_⟩
   obtain rfl : wq.heap.size = g := by simpa using hg
   exact ⟨hD.size, by simp, heap_alloc_new wq _⟩
  case tJx4 =>
   rintro a1 W3 ⟨u1x, lo_x, hi_x, lo_xp, hi_xp, ao_x, L_x, cap_x, ao_xp, L_xp, cap_xp, rfl, D3, d1_x, d2_x, d3_x, d1_xp, d2_xp, d3_xp, d_x_xp, oo_x, oo_xp, hx⟩ hHeld
   have z3 : W2.heap.size ≤ W3.heap.size := D3.size
   have B3 : Hid (Below w.heap.size w W3) := B2.out.trans (D3.mono B2.out.size)
   have D3 : Hid (Below W2.heap.size W2 W3) := D3
   have o_x3 : Hid (Own W3 lo_x hi_x 9 (.slice ao_x L_x cap_x) (ss l1)) := oo_x
   clear oo_x
   have o_xp3 : Hid (Own W3 lo_xp hi_xp 5 (.slice ao_xp L_xp cap_xp) (bs b_1)) := oo_xp
   clear oo_xp
   clear hx
   try simp only [Act.put, pu1, pu2, pu3, pu4, pu5, pu6]
   (refine wpAnyH_take (i := 6) (v := ?v6x74) rfl (by kernel_rfl) (by kernel_rfl) (by kernel_rfl) (fun _ _ _ h => h) (Or.inl ⟨by rfl, ?hy6x74⟩) (by assumption) ?rest6x74; case hy6x74 => (intro w hSw; (try dsimp only at hSw); go_split_ands; go_simp; (try with_reducible rfl)))
   try simp only [Act.put, pu1, pu2, pu3, pu4, pu5, pu6]
   (refine wpAnyH_take (i := 7) (v := ?v7x75) rfl (by kernel_rfl) (by kernel_rfl) (by kernel_rfl) (fun _ _ _ h => h) (Or.inl ⟨by rfl, ?hy7x75⟩) (by assumption) ?rest7x75; case hy7x75 => (intro w hSw; (try dsimp only at hSw); go_split_ands; go_simp; (try with_reducible rfl)))
   try simp only [Act.put, pu1, pu2, pu3, pu4, pu5, pu6]
   (refine wpAnyH_take (i := 8) (v := ?v8x76) rfl (by kernel_rfl) (by kernel_rfl) (by kernel_rfl) (fun _ _ _ h => h) (Or.inl ⟨by rfl, ?hy8x76⟩) (by assumption) ?rest8x76; case hy8x76 => (intro w hSw; (try dsimp only at hSw); go_split_ands; go_simp; (try with_reducible rfl)))
   try simp only [Act.put, pu1, pu2, pu3, pu4, pu5, pu6]
   refine wpAnyH_ready (rs := [9]) (by kernel_rfl) (by simp) ?_
   refine AllReadyH.cons rfl (fun K hK => ?_) AllReadyH.nil
   go_simp
   refine hK.out _ _ ⟨(keepR (W := W3) hHeld.1 ((Below.refl _ _).alloc (Nat.le_refl _) _)), (keepR (W := W3) hHeld.2.1 ((Below.refl _ _).alloc (Nat.le_refl _) _)), (keepR (W := W3) hHeld.2.2.1 ((Below.refl _ _).alloc (Nat.le_refl _) _)), (keepR (W := W3) hHeld.2.2.2.1 ((Below.refl _ _).alloc (Nat.le_refl _) _)), (keepR (W := W3) hHeld.2.2.2.2 ((Below.refl _ _).alloc (Nat.le_refl _) _))⟩ (fun hHeld => ?_)
   clear hK K
   try simp only [Act.put, pu1, pu2, pu3, pu4, pu5, pu6]
   obtain ⟨W4, HW4, b4, y4, r_up4⟩ : ∃ X, Hid ((W3.alloc (.cells #[.slice none 0 0, .int .i64 0, .string ⟨#[]⟩, .slice none 0 0, .int .i64 0] 37)) = X) ∧ Below W3.heap.size W3 X ∧ W3.heap.size + 1 ≤ X.heap.size ∧ Hid (X.heap[W3.heap.size]? = some (.cells #[.slice none 0 0, .int .i64 0, .string ⟨#[]⟩, .slice none 0 0, .int .i64 0] 37 (0, 0))) := ⟨_, rfl, ((Below.refl _ _).alloc (Nat.le_refl _) _), (by show _ ≤ (W3.heap.push _).size; simp), heap_alloc_new W3 _⟩
   have HHW4 := HW4.out
   rw [HHW4] at hHeld ⊢
   clear HHW4
   have z4 : W3.heap.size ≤ W4.heap.size := b4.size
   have B4 : Hid (Below w.heap.size w W4) := B3.out.trans (b4.mono B3.out.size)
   have o_x4 : Hid (Own W4 (lo_x) (hi_x) 9 (.slice ao_x L_x cap_x) (ss l1)) := Own.later o_x3.out b4 (by omega)
   have o_xp4 : Hid (Own W4 (lo_xp) (hi_xp) 5 (.slice ao_xp L_xp cap_xp) (bs b_1)) := Own.later o_xp3.out b4 (by omega)
   have c_up4_0 : W4.cell? ⟨W3.heap.size, 0, none⟩ = some (.slice none 0 0) := row_at r_up4.out 0
   have c_up4_1 : W4.cell? ⟨W3.heap.size, 1, none⟩ = some (.int .i64 0) := row_at r_up4.out 1
   have c_up4_2 : W4.cell? ⟨W3.heap.size, 2, none⟩ = some (.string ⟨#[]⟩) := row_at r_up4.out 2
   have c_up4_3 : W4.cell? ⟨W3.heap.size, 3, none⟩ = some (.slice none 0 0) := row_at r_up4.out 3
   have c_up4_4 : W4.cell? ⟨W3.heap.size, 4, none⟩ = some (.int .i64 0) := row_at r_up4.out 4
   clear o_x3 o_xp3
   have D4 : Hid (Below W2.heap.size W2 W4) := D3.out.trans (b4.mono D3.out.size)
   refine wpAnyH_ready (rs := [10]) (by kernel_rfl) (by simp) ?_
   refine AllReadyH.cons rfl (fun K hK => ?_) AllReadyH.nil
   rw [if_pos (by rfl)]
   refine wp_store_row 37 _ _ rfl (W3.heap.size) (sc (.slice ao_x L_x cap_x) hd1 (.slice ao_xp L_xp cap_xp) s1) rfl rfl 37 _ r_up4.out (sizeS _ _ _ _) rfl (oneS _ _ rfl rfl) ?_
   refine hK.out _ _ ⟨(cell_row (by show W1.heap.size ≠ W3.heap.size; omega) hHeld.1), (cell_row (by show W1.heap.size ≠ W3.heap.size; omega) hHeld.2.1), (cell_row (by show W1.heap.size ≠ W3.heap.size; omega) hHeld.2.2.1), (cell_row (by show W1.heap.size ≠ W3.heap.size; omega) hHeld.2.2.2.1), (cell_row (by show W1.heap.size ≠ W3.heap.size; omega) hHeld.2.2.2.2)⟩ (fun hHeld => ?_)
   clear hK K
   try simp only [Act.put, pu1, pu2, pu3, pu4, pu5, pu6]
   have D5a : Below W2.heap.size W2 (W4.setRow (W3.heap.size) (sc (.slice ao_x L_x cap_x) hd1 (.slice ao_xp L_xp cap_xp) s1)) := below_setRow D4.out (by omega) _
   obtain ⟨W5, HW5⟩ : ∃ X, Hid (W4.setRow (W3.heap.size) (sc (.slice ao_x L_x cap_x) hd1 (.slice ao_xp L_xp cap_xp) s1) = X) := ⟨_, rfl⟩
   have z5 : W4.heap.size ≤ W5.heap.size := by rw [← HW5.out]; simp
   have B5 : Hid (Below w.heap.size w W5) := by show Below _ _ _; rw [← HW5.out]; exact below_setRow B4.out (by have := B4.out.size; omega) _
   have o_x5 : Hid (Own W5 (lo_x) (hi_x) 9 (.slice ao_x L_x cap_x) (ss l1)) := by show Own _ _ _ _ _ _; rw [← HW5.out]; exact Own.setRow o_x4.out _ (by omega)
   have o_xp5 : Hid (Own W5 (lo_xp) (hi_xp) 5 (.slice ao_xp L_xp cap_xp) (bs b_1)) := by show Own _ _ _ _ _ _; rw [← HW5.out]; exact Own.setRow o_xp4.out _ (by omega)
   have r_up5 : Hid (W5.heap[W3.heap.size]? = some (.cells #[.slice ao_x L_x cap_x, .int .i64 hd1.n, .string hd1.r, .slice ao_xp L_xp cap_xp, .int .i64 s1] 37 (0, 0))) := by show _ = _; rw [← HW5.out]; exact setRow_heap _ _ _ _ _ (0, 0) r_up4.out
   rw [HW5.out]
   clear r_up4 c_up4_0 c_up4_1 c_up4_2 c_up4_3 c_up4_4 o_x4 o_xp4
   have c_up5_0 : W5.cell? ⟨W3.heap.size, 0, none⟩ = some (.slice ao_x L_x cap_x) := row_at r_up5.out 0
   have c_up5_1 : W5.cell? ⟨W3.heap.size, 1, none⟩ = some (.int .i64 hd1.n) := row_at r_up5.out 1
   have c_up5_2 : W5.cell? ⟨W3.heap.size, 2, none⟩ = some (.string hd1.r) := row_at r_up5.out 2
   have c_up5_3 : W5.cell? ⟨W3.heap.size, 3, none⟩ = some (.slice ao_xp L_xp cap_xp) := row_at r_up5.out 3
   have c_up5_4 : W5.cell? ⟨W3.heap.size, 4, none⟩ = some (.int .i64 s1) := row_at r_up5.out 4
   rw [HW5.out] at hHeld
   have D5 : Hid (Below W2.heap.size W2 W5) := by show Below _ _ _; rw [← HW5.out]; exact D5a
   (refine wpAnyH_take (i := 11) (v := ?v11x77) rfl (by kernel_rfl) (by kernel_rfl) (by kernel_rfl) (fun _ _ _ h => h) (Or.inl ⟨by rfl, ?hy11x77⟩) (by assumption) ?rest11x77; case hy11x77 => (intro w hSw; (try dsimp only at hSw); go_split_ands; go_simp; (try with_reducible rfl)))
   try simp only [Act.put, pu1, pu2, pu3, pu4, pu5, pu6]
   refine wpAnyH_done (by kernel_rfl) ?_ _
   clear hHeld
   go_wp2_with fail
   go_meet
   exact ⟨W3.heap.size, rfl, rfl, by omega, (Array.getElem?_eq_some_iff.1 r_up5.out).1, D5.out, lo_x, hi_x, ao_x, L_x, cap_x, lo_xp, hi_xp, ao_xp, L_xp, cap_xp, by omega, by omega, by omega, by omega, by omega, by omega, by omega, o_x5.out, o_xp5.out, by omega, by omega, r_up5.out⟩
  case tKx4 =>
   rintro g_up a1 W3 ⟨u1x, lo_x, hi_x, lo_xp, hi_xp, ao_x, L_x, cap_x, ao_xp, L_xp, cap_xp, rfl, D3, d1_x, d2_x, d3_x, d1_xp, d2_xp, d3_xp, d_x_xp, oo_x, oo_xp, hx⟩ hHeld
   have z3 : W2.heap.size ≤ W3.heap.size := D3.size
   have B3 : Hid (Below w.heap.size w W3) := B2.out.trans (D3.mono B2.out.size)
   have D3 : Hid (Below W2.heap.size W2 W3) := D3
   obtain ⟨hg1_up, hg2_up, hg3_up, hgf_x, hgf_xp⟩ := hx g_up rfl
   have r_up3 : Hid (W3.heap[g_up]? = some (.cells #[.slice none 0 0, .int .i64 0, .string ⟨#[]⟩, .slice none 0 0, .int .i64 0] 37 (0, 0))) := hg3_up
   clear hg3_up
   have o_x3 : Hid (Own W3 lo_x hi_x 9 (.slice ao_x L_x cap_x) (ss l1)) := oo_x
   clear oo_x
   have o_xp3 : Hid (Own W3 lo_xp hi_xp 5 (.slice ao_xp L_xp cap_xp) (bs b_1)) := oo_xp
   clear oo_xp
   clear hx
   try simp only [Act.put, pu1, pu2, pu3, pu4, pu5, pu6]
   have c_up3_0 : W3.cell? ⟨g_up, 0, none⟩ = some (.slice none 0 0) := row_at r_up3.out 0
   have c_up3_1 : W3.cell? ⟨g_up, 1, none⟩ = some (.int .i64 0) := row_at r_up3.out 1
   have c_up3_2 : W3.cell? ⟨g_up, 2, none⟩ = some (.string ⟨#[]⟩) := row_at r_up3.out 2
   have c_up3_3 : W3.cell? ⟨g_up, 3, none⟩ = some (.slice none 0 0) := row_at r_up3.out 3
   have c_up3_4 : W3.cell? ⟨g_up, 4, none⟩ = some (.int .i64 0) := row_at r_up3.out 4
   (refine wpAnyH_take (i := 6) (v := ?v6x78) rfl (by kernel_rfl) (by kernel_rfl) (by kernel_rfl) (fun _ _ _ h => h) (Or.inl ⟨by rfl, ?hy6x78⟩) (by assumption) ?rest6x78; case hy6x78 => (intro w hSw; (try dsimp only at hSw); go_split_ands; go_simp; (try with_reducible rfl)))
   try simp only [Act.put, pu1, pu2, pu3, pu4, pu5, pu6]
   (refine wpAnyH_take (i := 7) (v := ?v7x79) rfl (by kernel_rfl) (by kernel_rfl) (by kernel_rfl) (fun _ _ _ h => h) (Or.inl ⟨by rfl, ?hy7x79⟩) (by assumption) ?rest7x79; case hy7x79 => (intro w hSw; (try dsimp only at hSw); go_split_ands; go_simp; (try with_reducible rfl)))
   try simp only [Act.put, pu1, pu2, pu3, pu4, pu5, pu6]
   (refine wpAnyH_take (i := 8) (v := ?v8x80) rfl (by kernel_rfl) (by kernel_rfl) (by kernel_rfl) (fun _ _ _ h => h) (Or.inl ⟨by rfl, ?hy8x80⟩) (by assumption) ?rest8x80; case hy8x80 => (intro w hSw; (try dsimp only at hSw); go_split_ands; go_simp; (try with_reducible rfl)))
   try simp only [Act.put, pu1, pu2, pu3, pu4, pu5, pu6]
   refine wpAnyH_ready (rs := [10]) (by kernel_rfl) (by simp) ?_
   refine AllReadyH.cons rfl (fun K hK => ?_) AllReadyH.nil
   rw [if_pos (by rfl)]
   refine wp_store_row 37 _ _ rfl (g_up) (sc (.slice ao_x L_x cap_x) hd1 (.slice ao_xp L_xp cap_xp) s1) rfl rfl 37 _ r_up3.out (sizeS _ _ _ _) rfl (oneS _ _ rfl rfl) ?_
   refine hK.out _ _ ⟨(cell_row (by show W1.heap.size ≠ g_up; omega) hHeld.1), (cell_row (by show W1.heap.size ≠ g_up; omega) hHeld.2.1), (cell_row (by show W1.heap.size ≠ g_up; omega) hHeld.2.2.1), (cell_row (by show W1.heap.size ≠ g_up; omega) hHeld.2.2.2.1), (cell_row (by show W1.heap.size ≠ g_up; omega) hHeld.2.2.2.2)⟩ (fun hHeld => ?_)
   clear hK K
   try simp only [Act.put, pu1, pu2, pu3, pu4, pu5, pu6]
   have D4a : Below W2.heap.size W2 (W3.setRow (g_up) (sc (.slice ao_x L_x cap_x) hd1 (.slice ao_xp L_xp cap_xp) s1)) := below_setRow D3.out (by omega) _
   obtain ⟨W4, HW4⟩ : ∃ X, Hid (W3.setRow (g_up) (sc (.slice ao_x L_x cap_x) hd1 (.slice ao_xp L_xp cap_xp) s1) = X) := ⟨_, rfl⟩
   have z4 : W3.heap.size ≤ W4.heap.size := by rw [← HW4.out]; simp
   have B4 : Hid (Below w.heap.size w W4) := by show Below _ _ _; rw [← HW4.out]; exact below_setRow B3.out (by have := B3.out.size; omega) _
   have o_x4 : Hid (Own W4 (lo_x) (hi_x) 9 (.slice ao_x L_x cap_x) (ss l1)) := by show Own _ _ _ _ _ _; rw [← HW4.out]; exact Own.setRow o_x3.out _ (by omega)
   have o_xp4 : Hid (Own W4 (lo_xp) (hi_xp) 5 (.slice ao_xp L_xp cap_xp) (bs b_1)) := by show Own _ _ _ _ _ _; rw [← HW4.out]; exact Own.setRow o_xp3.out _ (by omega)
   have r_up4 : Hid (W4.heap[g_up]? = some (.cells #[.slice ao_x L_x cap_x, .int .i64 hd1.n, .string hd1.r, .slice ao_xp L_xp cap_xp, .int .i64 s1] 37 (0, 0))) := by show _ = _; rw [← HW4.out]; exact setRow_heap _ _ _ _ _ (0, 0) r_up3.out
   rw [HW4.out]
   clear r_up3 c_up3_0 c_up3_1 c_up3_2 c_up3_3 c_up3_4 o_x3 o_xp3
   have c_up4_0 : W4.cell? ⟨g_up, 0, none⟩ = some (.slice ao_x L_x cap_x) := row_at r_up4.out 0
   have c_up4_1 : W4.cell? ⟨g_up, 1, none⟩ = some (.int .i64 hd1.n) := row_at r_up4.out 1
   have c_up4_2 : W4.cell? ⟨g_up, 2, none⟩ = some (.string hd1.r) := row_at r_up4.out 2
   have c_up4_3 : W4.cell? ⟨g_up, 3, none⟩ = some (.slice ao_xp L_xp cap_xp) := row_at r_up4.out 3
   have c_up4_4 : W4.cell? ⟨g_up, 4, none⟩ = some (.int .i64 s1) := row_at r_up4.out 4
   rw [HW4.out] at hHeld
   have D4 : Hid (Below W2.heap.size W2 W4) := by show Below _ _ _; rw [← HW4.out]; exact D4a
   (refine wpAnyH_take (i := 11) (v := ?v11x81) rfl (by kernel_rfl) (by kernel_rfl) (by kernel_rfl) (fun _ _ _ h => h) (Or.inl ⟨by rfl, ?hy11x81⟩) (by assumption) ?rest11x81; case hy11x81 => (intro w hSw; (try dsimp only at hSw); go_split_ands; go_simp; (try with_reducible rfl)))
   try simp only [Act.put, pu1, pu2, pu3, pu4, pu5, pu6]
   refine wpAnyH_done (by kernel_rfl) ?_ _
   clear hHeld
   go_wp2_with fail
   go_meet
   exact ⟨g_up, rfl, rfl, by omega, (Array.getElem?_eq_some_iff.1 r_up4.out).1, D4.out, lo_x, hi_x, ao_x, L_x, cap_x, lo_xp, hi_xp, ao_xp, L_xp, cap_xp, by omega, by omega, by omega, by omega, by omega, by omega, by omega, o_x4.out, o_xp4.out, by omega, by omega, r_up4.out⟩
  case h0x4 =>
   exact ⟨rfl, Below.drew (Below.refl _ _), fun g hg => by cases hg⟩
 case rest =>
 obtain ⟨g_up, rfl, rfl, hg_up, hg2_up, b3, lo_x, hi_x, ao_x, L_x, cap_x, lo_xp, hi_xp, ao_xp, L_xp, cap_xp, d1_x, d2_x, d3_x, d1_xp, d2_xp, d3_xp, d_x_xp, oo_x, oo_xp, hgf_x, hgf_xp, r_up3⟩ := hcut
 revert hg2_up b3 d3_x d3_xp oo_x oo_xp r_up3
 generalize wc = W3
 intro hg2_up b3 d3_x d3_xp oo_x oo_xp r_up3
 have r_up3 : Hid (W3.heap[g_up]? = some (.cells #[.slice ao_x L_x cap_x, .int .i64 hd1.n, .string hd1.r, .slice ao_xp L_xp cap_xp, .int .i64 s1] 37 (0, 0))) := r_up3
 have o_x3 : Hid (Own W3 lo_x hi_x 9 (.slice ao_x L_x cap_x) (ss l1)) := oo_x
 clear oo_x
 have o_xp3 : Hid (Own W3 lo_xp hi_xp 5 (.slice ao_xp L_xp cap_xp) (bs b_1)) := oo_xp
 clear oo_xp
 have z3 : W2.heap.size ≤ W3.heap.size := b3.size
 have B3 : Hid (Below w.heap.size w W3) := B2.out.trans (b3.mono B2.out.size)
 have r_s3 : Hid (W3.heap[W1.heap.size]? = some (.cells #[.slice ao_v L_v cap_v, .int .i64 st.h.n, .string st.h.r, .slice ao_u L_u cap_u, .int .i64 st.s] 37 (0, 0))) := rowKeep r_s2.out b3
 have o_v3 : Hid (Own W3 (lo_v) (hi_v) 9 (.slice ao_v L_v cap_v) (ss st.l)) := Own.later o_v2.out b3 (by omega)
 have o_u3 : Hid (Own W3 (lo_u) (hi_u) 5 (.slice ao_u L_u cap_u) (bs st.b)) := Own.later o_u2.out b3 (by omega)
 have c_s3_0 : W3.cell? ⟨W1.heap.size, 0, none⟩ = some (.slice ao_v L_v cap_v) := row_at r_s3.out 0
 have c_s3_1 : W3.cell? ⟨W1.heap.size, 1, none⟩ = some (.int .i64 st.h.n) := row_at r_s3.out 1
 have c_s3_2 : W3.cell? ⟨W1.heap.size, 2, none⟩ = some (.string st.h.r) := row_at r_s3.out 2
 have c_s3_3 : W3.cell? ⟨W1.heap.size, 3, none⟩ = some (.slice ao_u L_u cap_u) := row_at r_s3.out 3
 have c_s3_4 : W3.cell? ⟨W1.heap.size, 4, none⟩ = some (.int .i64 st.s) := row_at r_s3.out 4
 have c_up3_0 : W3.cell? ⟨g_up, 0, none⟩ = some (.slice ao_x L_x cap_x) := row_at r_up3.out 0
 have c_up3_1 : W3.cell? ⟨g_up, 1, none⟩ = some (.int .i64 hd1.n) := row_at r_up3.out 1
 have c_up3_2 : W3.cell? ⟨g_up, 2, none⟩ = some (.string hd1.r) := row_at r_up3.out 2
 have c_up3_3 : W3.cell? ⟨g_up, 3, none⟩ = some (.slice ao_xp L_xp cap_xp) := row_at r_up3.out 3
 have c_up3_4 : W3.cell? ⟨g_up, 4, none⟩ = some (.int .i64 s1) := row_at r_up3.out 4
 clear r_s2 c_s2_0 c_s2_1 c_s2_2 c_s2_3 c_s2_4 o_v2 o_u2
 have f_t3 : Hid (Sh W3 (.slice ao_t t.length cap_t) t) := Sh.later f_t2.out b3
 clear f_t2
 go_wp2_with fail
 refine (qf2 W3 _ _ B3.out o_v3.out.sl o_u3.out.sl).mono ?_
 rintro e W4 ⟨v_f, rfl, o_f4, b4⟩
 obtain ⟨ao_f, L_f, cap_f, rfl, hL_f, hM_f⟩ := o_f4.form
 have o_f4 : Hid (Own W4 W3.heap.size W4.heap.size 5 (.slice ao_f L_f cap_f) (bs F2)) := o_f4
 clear hL_f hM_f
 have z4 : W3.heap.size ≤ W4.heap.size := b4.size
 have B4 : Hid (Below w.heap.size w W4) := B3.out.trans (b4.mono B3.out.size)
 have r_s4 : Hid (W4.heap[W1.heap.size]? = some (.cells #[.slice ao_v L_v cap_v, .int .i64 st.h.n, .string st.h.r, .slice ao_u L_u cap_u, .int .i64 st.s] 37 (0, 0))) := rowKeep r_s3.out b4
 have r_up4 : Hid (W4.heap[g_up]? = some (.cells #[.slice ao_x L_x cap_x, .int .i64 hd1.n, .string hd1.r, .slice ao_xp L_xp cap_xp, .int .i64 s1] 37 (0, 0))) := rowKeep r_up3.out b4
 have o_v4 : Hid (Own W4 (lo_v) (hi_v) 9 (.slice ao_v L_v cap_v) (ss st.l)) := Own.later o_v3.out b4 (by omega)
 have o_u4 : Hid (Own W4 (lo_u) (hi_u) 5 (.slice ao_u L_u cap_u) (bs st.b)) := Own.later o_u3.out b4 (by omega)
 have o_x4 : Hid (Own W4 (lo_x) (hi_x) 9 (.slice ao_x L_x cap_x) (ss l1)) := Own.later o_x3.out b4 (by omega)
 have o_xp4 : Hid (Own W4 (lo_xp) (hi_xp) 5 (.slice ao_xp L_xp cap_xp) (bs b_1)) := Own.later o_xp3.out b4 (by omega)
 have c_s4_0 : W4.cell? ⟨W1.heap.size, 0, none⟩ = some (.slice ao_v L_v cap_v) := row_at r_s4.out 0
 have c_s4_1 : W4.cell? ⟨W1.heap.size, 1, none⟩ = some (.int .i64 st.h.n) := row_at r_s4.out 1
 have c_s4_2 : W4.cell? ⟨W1.heap.size, 2, none⟩ = some (.string st.h.r) := row_at r_s4.out 2
 have c_s4_3 : W4.cell? ⟨W1.heap.size, 3, none⟩ = some (.slice ao_u L_u cap_u) := row_at r_s4.out 3
 have c_s4_4 : W4.cell? ⟨W1.heap.size, 4, none⟩ = some (.int .i64 st.s) := row_at r_s4.out 4
 have c_up4_0 : W4.cell? ⟨g_up, 0, none⟩ = some (.slice ao_x L_x cap_x) := row_at r_up4.out 0
 have c_up4_1 : W4.cell? ⟨g_up, 1, none⟩ = some (.int .i64 hd1.n) := row_at r_up4.out 1
 have c_up4_2 : W4.cell? ⟨g_up, 2, none⟩ = some (.string hd1.r) := row_at r_up4.out 2
 have c_up4_3 : W4.cell? ⟨g_up, 3, none⟩ = some (.slice ao_xp L_xp cap_xp) := row_at r_up4.out 3
 have c_up4_4 : W4.cell? ⟨g_up, 4, none⟩ = some (.int .i64 s1) := row_at r_up4.out 4
 clear r_s3 c_s3_0 c_s3_1 c_s3_2 c_s3_3 c_s3_4 r_up3 c_up3_0 c_up3_1 c_up3_2 c_up3_3 c_up3_4 o_v3 o_u3 o_x3 o_xp3
 have f_t4 : Hid (Sh W4 (.slice ao_t t.length cap_t) t) := Sh.later f_t3.out b4
 clear f_t3
 go_wp2_with fail
 refine (qo2 W4 _ _ B4.out f_t4.out o_f4.out.sl).mono ?_
 rintro e W5 ⟨v_lw, v_lp, rfl, o_lw5, o_lp5, b5⟩
 obtain ⟨lo_lw, hi_lw, lo_lp, hi_lp, d1_lw, d2_lw, d3_lw, d4_lw, d5_lw, d6_lw, d7_lw, oo_lw, oo_lp⟩ := Sr.pairN o_lw5 o_lp5 b5.size
 clear o_lw5 o_lp5
 obtain ⟨ao_lw, L_lw, cap_lw, rfl, _, _⟩ := oo_lw.form
 obtain ⟨ao_lp, L_lp, cap_lp, rfl, _, _⟩ := oo_lp.form
 have o_lw5 : Hid (Own W5 lo_lw hi_lw 9 (.slice ao_lw L_lw cap_lw) (ss l2)) := oo_lw
 have o_lp5 : Hid (Own W5 lo_lp hi_lp 5 (.slice ao_lp L_lp cap_lp) (bs b_2)) := oo_lp
 clear oo_lw oo_lp
 have z5 : W4.heap.size ≤ W5.heap.size := b5.size
 have B5 : Hid (Below w.heap.size w W5) := B4.out.trans (b5.mono B4.out.size)
 have r_s5 : Hid (W5.heap[W1.heap.size]? = some (.cells #[.slice ao_v L_v cap_v, .int .i64 st.h.n, .string st.h.r, .slice ao_u L_u cap_u, .int .i64 st.s] 37 (0, 0))) := rowKeep r_s4.out b5
 have r_up5 : Hid (W5.heap[g_up]? = some (.cells #[.slice ao_x L_x cap_x, .int .i64 hd1.n, .string hd1.r, .slice ao_xp L_xp cap_xp, .int .i64 s1] 37 (0, 0))) := rowKeep r_up4.out b5
 have o_v5 : Hid (Own W5 (lo_v) (hi_v) 9 (.slice ao_v L_v cap_v) (ss st.l)) := Own.later o_v4.out b5 (by omega)
 have o_u5 : Hid (Own W5 (lo_u) (hi_u) 5 (.slice ao_u L_u cap_u) (bs st.b)) := Own.later o_u4.out b5 (by omega)
 have o_x5 : Hid (Own W5 (lo_x) (hi_x) 9 (.slice ao_x L_x cap_x) (ss l1)) := Own.later o_x4.out b5 (by omega)
 have o_xp5 : Hid (Own W5 (lo_xp) (hi_xp) 5 (.slice ao_xp L_xp cap_xp) (bs b_1)) := Own.later o_xp4.out b5 (by omega)
 have o_f5 : Hid (Own W5 (W3.heap.size) (W4.heap.size) 5 (.slice ao_f L_f cap_f) (bs F2)) := Own.later o_f4.out b5 (by omega)
 have c_s5_0 : W5.cell? ⟨W1.heap.size, 0, none⟩ = some (.slice ao_v L_v cap_v) := row_at r_s5.out 0
 have c_s5_1 : W5.cell? ⟨W1.heap.size, 1, none⟩ = some (.int .i64 st.h.n) := row_at r_s5.out 1
 have c_s5_2 : W5.cell? ⟨W1.heap.size, 2, none⟩ = some (.string st.h.r) := row_at r_s5.out 2
 have c_s5_3 : W5.cell? ⟨W1.heap.size, 3, none⟩ = some (.slice ao_u L_u cap_u) := row_at r_s5.out 3
 have c_s5_4 : W5.cell? ⟨W1.heap.size, 4, none⟩ = some (.int .i64 st.s) := row_at r_s5.out 4
 have c_up5_0 : W5.cell? ⟨g_up, 0, none⟩ = some (.slice ao_x L_x cap_x) := row_at r_up5.out 0
 have c_up5_1 : W5.cell? ⟨g_up, 1, none⟩ = some (.int .i64 hd1.n) := row_at r_up5.out 1
 have c_up5_2 : W5.cell? ⟨g_up, 2, none⟩ = some (.string hd1.r) := row_at r_up5.out 2
 have c_up5_3 : W5.cell? ⟨g_up, 3, none⟩ = some (.slice ao_xp L_xp cap_xp) := row_at r_up5.out 3
 have c_up5_4 : W5.cell? ⟨g_up, 4, none⟩ = some (.int .i64 s1) := row_at r_up5.out 4
 clear r_s4 c_s4_0 c_s4_1 c_s4_2 c_s4_3 c_s4_4 r_up4 c_up4_0 c_up4_1 c_up4_2 c_up4_3 c_up4_4 o_v4 o_u4 o_x4 o_xp4 o_f4
 have f_t5 : Hid (Sh W5 (.slice ao_t t.length cap_t) t) := Sh.later f_t4.out b5
 clear f_t4
 clear o_f5
 have a_s5_0 : ∀ o, (W5.alloc o).cell? ⟨W1.heap.size, 0, none⟩ = some (.slice ao_v L_v cap_v) := fun o => keepR c_s5_0 ((Below.refl _ _).alloc (Nat.le_refl _) o)
 have a_s5_1 : ∀ o, (W5.alloc o).cell? ⟨W1.heap.size, 1, none⟩ = some (.int .i64 st.h.n) := fun o => keepR c_s5_1 ((Below.refl _ _).alloc (Nat.le_refl _) o)
 have a_s5_2 : ∀ o, (W5.alloc o).cell? ⟨W1.heap.size, 2, none⟩ = some (.string st.h.r) := fun o => keepR c_s5_2 ((Below.refl _ _).alloc (Nat.le_refl _) o)
 have a_s5_3 : ∀ o, (W5.alloc o).cell? ⟨W1.heap.size, 3, none⟩ = some (.slice ao_u L_u cap_u) := fun o => keepR c_s5_3 ((Below.refl _ _).alloc (Nat.le_refl _) o)
 have a_s5_4 : ∀ o, (W5.alloc o).cell? ⟨W1.heap.size, 4, none⟩ = some (.int .i64 st.s) := fun o => keepR c_s5_4 ((Below.refl _ _).alloc (Nat.le_refl _) o)
 have a_up5_0 : ∀ o, (W5.alloc o).cell? ⟨g_up, 0, none⟩ = some (.slice ao_x L_x cap_x) := fun o => keepR c_up5_0 ((Below.refl _ _).alloc (Nat.le_refl _) o)
 have a_up5_1 : ∀ o, (W5.alloc o).cell? ⟨g_up, 1, none⟩ = some (.int .i64 hd1.n) := fun o => keepR c_up5_1 ((Below.refl _ _).alloc (Nat.le_refl _) o)
 have a_up5_2 : ∀ o, (W5.alloc o).cell? ⟨g_up, 2, none⟩ = some (.string hd1.r) := fun o => keepR c_up5_2 ((Below.refl _ _).alloc (Nat.le_refl _) o)
 have a_up5_3 : ∀ o, (W5.alloc o).cell? ⟨g_up, 3, none⟩ = some (.slice ao_xp L_xp cap_xp) := fun o => keepR c_up5_3 ((Below.refl _ _).alloc (Nat.le_refl _) o)
 have a_up5_4 : ∀ o, (W5.alloc o).cell? ⟨g_up, 4, none⟩ = some (.int .i64 s1) := fun o => keepR c_up5_4 ((Below.refl _ _).alloc (Nat.le_refl _) o)
 obtain ⟨W6, HW6, b6, y6, hS6, r_low6⟩ : ∃ X, Hid ((W5.alloc (.cells #[.slice ao_lw L_lw cap_lw, .int .i64 hd2.n, .string hd2.r, .slice ao_lp L_lp cap_lp, .int .i64 s2] 37)) = X) ∧ Below W5.heap.size W5 X ∧ W5.heap.size + 1 ≤ X.heap.size ∧ Hid (X.heap.size = W5.heap.size + 1) ∧ Hid (X.heap[W5.heap.size]? = some (.cells #[.slice ao_lw L_lw cap_lw, .int .i64 hd2.n, .string hd2.r, .slice ao_lp L_lp cap_lp, .int .i64 s2] 37 (0, 0))) := ⟨_, rfl, ((Below.refl _ _).alloc (Nat.le_refl _) _), by simp, by show _ = _; simp, (by show _ = _; exact alloc_nth1_0 W5 _)⟩
 have z6 : W5.heap.size ≤ W6.heap.size := b6.size
 have B6 : Hid (Below w.heap.size w W6) := B5.out.trans (b6.mono B5.out.size)
 have r_s6 : Hid (W6.heap[W1.heap.size]? = some (.cells #[.slice ao_v L_v cap_v, .int .i64 st.h.n, .string st.h.r, .slice ao_u L_u cap_u, .int .i64 st.s] 37 (0, 0))) := rowKeep r_s5.out b6
 have r_up6 : Hid (W6.heap[g_up]? = some (.cells #[.slice ao_x L_x cap_x, .int .i64 hd1.n, .string hd1.r, .slice ao_xp L_xp cap_xp, .int .i64 s1] 37 (0, 0))) := rowKeep r_up5.out b6
 have o_v6 : Hid (Own W6 (lo_v) (hi_v) 9 (.slice ao_v L_v cap_v) (ss st.l)) := Own.later o_v5.out b6 (by omega)
 have o_u6 : Hid (Own W6 (lo_u) (hi_u) 5 (.slice ao_u L_u cap_u) (bs st.b)) := Own.later o_u5.out b6 (by omega)
 have o_x6 : Hid (Own W6 (lo_x) (hi_x) 9 (.slice ao_x L_x cap_x) (ss l1)) := Own.later o_x5.out b6 (by omega)
 have o_xp6 : Hid (Own W6 (lo_xp) (hi_xp) 5 (.slice ao_xp L_xp cap_xp) (bs b_1)) := Own.later o_xp5.out b6 (by omega)
 have o_lw6 : Hid (Own W6 (lo_lw) (hi_lw) 9 (.slice ao_lw L_lw cap_lw) (ss l2)) := Own.later o_lw5.out b6 (by omega)
 have o_lp6 : Hid (Own W6 (lo_lp) (hi_lp) 5 (.slice ao_lp L_lp cap_lp) (bs b_2)) := Own.later o_lp5.out b6 (by omega)
 have c_s6_0 : W6.cell? ⟨W1.heap.size, 0, none⟩ = some (.slice ao_v L_v cap_v) := row_at r_s6.out 0
 have c_s6_1 : W6.cell? ⟨W1.heap.size, 1, none⟩ = some (.int .i64 st.h.n) := row_at r_s6.out 1
 have c_s6_2 : W6.cell? ⟨W1.heap.size, 2, none⟩ = some (.string st.h.r) := row_at r_s6.out 2
 have c_s6_3 : W6.cell? ⟨W1.heap.size, 3, none⟩ = some (.slice ao_u L_u cap_u) := row_at r_s6.out 3
 have c_s6_4 : W6.cell? ⟨W1.heap.size, 4, none⟩ = some (.int .i64 st.s) := row_at r_s6.out 4
 have c_up6_0 : W6.cell? ⟨g_up, 0, none⟩ = some (.slice ao_x L_x cap_x) := row_at r_up6.out 0
 have c_up6_1 : W6.cell? ⟨g_up, 1, none⟩ = some (.int .i64 hd1.n) := row_at r_up6.out 1
 have c_up6_2 : W6.cell? ⟨g_up, 2, none⟩ = some (.string hd1.r) := row_at r_up6.out 2
 have c_up6_3 : W6.cell? ⟨g_up, 3, none⟩ = some (.slice ao_xp L_xp cap_xp) := row_at r_up6.out 3
 have c_up6_4 : W6.cell? ⟨g_up, 4, none⟩ = some (.int .i64 s1) := row_at r_up6.out 4
 have c_low6_0 : W6.cell? ⟨W5.heap.size, 0, none⟩ = some (.slice ao_lw L_lw cap_lw) := row_at r_low6.out 0
 have c_low6_1 : W6.cell? ⟨W5.heap.size, 1, none⟩ = some (.int .i64 hd2.n) := row_at r_low6.out 1
 have c_low6_2 : W6.cell? ⟨W5.heap.size, 2, none⟩ = some (.string hd2.r) := row_at r_low6.out 2
 have c_low6_3 : W6.cell? ⟨W5.heap.size, 3, none⟩ = some (.slice ao_lp L_lp cap_lp) := row_at r_low6.out 3
 have c_low6_4 : W6.cell? ⟨W5.heap.size, 4, none⟩ = some (.int .i64 s2) := row_at r_low6.out 4
 clear r_s5 c_s5_0 c_s5_1 c_s5_2 c_s5_3 c_s5_4 r_up5 c_up5_0 c_up5_1 c_up5_2 c_up5_3 c_up5_4 o_v5 o_u5 o_x5 o_xp5 o_lw5 o_lp5
 have f_t6 : Hid (Sh W6 (.slice ao_t t.length cap_t) t) := Sh.later f_t5.out b6
 clear f_t5
 go_wp2_with fail
 rw [HW6.out]
 clear a_s5_0 a_s5_1 a_s5_2 a_s5_3 a_s5_4 a_up5_0 a_up5_1 a_up5_2 a_up5_3 a_up5_4
 refine (qm W6 _ _ B6.out o_v6.out.sl o_u6.out.sl).mono ?_
 rintro e W7 ⟨v_ms, v_mp, rfl, o_ms7, o_mp7, b7⟩
 obtain ⟨lo_ms, hi_ms, lo_mp, hi_mp, d1_ms, d2_ms, d3_ms, d4_ms, d5_ms, d6_ms, d7_ms, oo_ms, oo_mp⟩ := Sr.pairN o_ms7 o_mp7 b7.size
 clear o_ms7 o_mp7
 obtain ⟨ao_ms, L_ms, cap_ms, rfl, _, _⟩ := oo_ms.form
 obtain ⟨ao_mp, L_mp, cap_mp, rfl, _, _⟩ := oo_mp.form
 have o_ms7 : Hid (Own W7 lo_ms hi_ms 9 (.slice ao_ms L_ms cap_ms) (ss st.l)) := oo_ms
 have o_mp7 : Hid (Own W7 lo_mp hi_mp 5 (.slice ao_mp L_mp cap_mp) (bs st.b)) := oo_mp
 clear oo_ms oo_mp
 have z7 : W6.heap.size ≤ W7.heap.size := b7.size
 have B7 : Hid (Below w.heap.size w W7) := B6.out.trans (b7.mono B6.out.size)
 have r_s7 : Hid (W7.heap[W1.heap.size]? = some (.cells #[.slice ao_v L_v cap_v, .int .i64 st.h.n, .string st.h.r, .slice ao_u L_u cap_u, .int .i64 st.s] 37 (0, 0))) := rowKeep r_s6.out b7
 have r_up7 : Hid (W7.heap[g_up]? = some (.cells #[.slice ao_x L_x cap_x, .int .i64 hd1.n, .string hd1.r, .slice ao_xp L_xp cap_xp, .int .i64 s1] 37 (0, 0))) := rowKeep r_up6.out b7
 have r_low7 : Hid (W7.heap[W5.heap.size]? = some (.cells #[.slice ao_lw L_lw cap_lw, .int .i64 hd2.n, .string hd2.r, .slice ao_lp L_lp cap_lp, .int .i64 s2] 37 (0, 0))) := rowKeep r_low6.out b7
 have o_v7 : Hid (Own W7 (lo_v) (hi_v) 9 (.slice ao_v L_v cap_v) (ss st.l)) := Own.later o_v6.out b7 (by omega)
 have o_u7 : Hid (Own W7 (lo_u) (hi_u) 5 (.slice ao_u L_u cap_u) (bs st.b)) := Own.later o_u6.out b7 (by omega)
 have o_x7 : Hid (Own W7 (lo_x) (hi_x) 9 (.slice ao_x L_x cap_x) (ss l1)) := Own.later o_x6.out b7 (by omega)
 have o_xp7 : Hid (Own W7 (lo_xp) (hi_xp) 5 (.slice ao_xp L_xp cap_xp) (bs b_1)) := Own.later o_xp6.out b7 (by omega)
 have o_lw7 : Hid (Own W7 (lo_lw) (hi_lw) 9 (.slice ao_lw L_lw cap_lw) (ss l2)) := Own.later o_lw6.out b7 (by omega)
 have o_lp7 : Hid (Own W7 (lo_lp) (hi_lp) 5 (.slice ao_lp L_lp cap_lp) (bs b_2)) := Own.later o_lp6.out b7 (by omega)
 have c_s7_0 : W7.cell? ⟨W1.heap.size, 0, none⟩ = some (.slice ao_v L_v cap_v) := row_at r_s7.out 0
 have c_s7_1 : W7.cell? ⟨W1.heap.size, 1, none⟩ = some (.int .i64 st.h.n) := row_at r_s7.out 1
 have c_s7_2 : W7.cell? ⟨W1.heap.size, 2, none⟩ = some (.string st.h.r) := row_at r_s7.out 2
 have c_s7_3 : W7.cell? ⟨W1.heap.size, 3, none⟩ = some (.slice ao_u L_u cap_u) := row_at r_s7.out 3
 have c_s7_4 : W7.cell? ⟨W1.heap.size, 4, none⟩ = some (.int .i64 st.s) := row_at r_s7.out 4
 have c_up7_0 : W7.cell? ⟨g_up, 0, none⟩ = some (.slice ao_x L_x cap_x) := row_at r_up7.out 0
 have c_up7_1 : W7.cell? ⟨g_up, 1, none⟩ = some (.int .i64 hd1.n) := row_at r_up7.out 1
 have c_up7_2 : W7.cell? ⟨g_up, 2, none⟩ = some (.string hd1.r) := row_at r_up7.out 2
 have c_up7_3 : W7.cell? ⟨g_up, 3, none⟩ = some (.slice ao_xp L_xp cap_xp) := row_at r_up7.out 3
 have c_up7_4 : W7.cell? ⟨g_up, 4, none⟩ = some (.int .i64 s1) := row_at r_up7.out 4
 have c_low7_0 : W7.cell? ⟨W5.heap.size, 0, none⟩ = some (.slice ao_lw L_lw cap_lw) := row_at r_low7.out 0
 have c_low7_1 : W7.cell? ⟨W5.heap.size, 1, none⟩ = some (.int .i64 hd2.n) := row_at r_low7.out 1
 have c_low7_2 : W7.cell? ⟨W5.heap.size, 2, none⟩ = some (.string hd2.r) := row_at r_low7.out 2
 have c_low7_3 : W7.cell? ⟨W5.heap.size, 3, none⟩ = some (.slice ao_lp L_lp cap_lp) := row_at r_low7.out 3
 have c_low7_4 : W7.cell? ⟨W5.heap.size, 4, none⟩ = some (.int .i64 s2) := row_at r_low7.out 4
 clear r_s6 c_s6_0 c_s6_1 c_s6_2 c_s6_3 c_s6_4 r_up6 c_up6_0 c_up6_1 c_up6_2 c_up6_3 c_up6_4 r_low6 c_low6_0 c_low6_1 c_low6_2 c_low6_3 c_low6_4 o_v6 o_u6 o_x6 o_xp6 o_lw6 o_lp6
 have f_t7 : Hid (Sh W7 (.slice ao_t t.length cap_t) t) := Sh.later f_t6.out b7
 clear f_t6
 go_wp2_with fail
 refine (qf3 W7 _ _ B7.out o_ms7.out.sl o_mp7.out.sl).mono ?_
 rintro e W8 ⟨v_f, rfl, o_f8, b8⟩
 obtain ⟨ao_f, L_f, cap_f, rfl, hL_f, hM_f⟩ := o_f8.form
 have o_f8 : Hid (Own W8 W7.heap.size W8.heap.size 5 (.slice ao_f L_f cap_f) (bs F3)) := o_f8
 clear hL_f hM_f
 have z8 : W7.heap.size ≤ W8.heap.size := b8.size
 have B8 : Hid (Below w.heap.size w W8) := B7.out.trans (b8.mono B7.out.size)
 have r_s8 : Hid (W8.heap[W1.heap.size]? = some (.cells #[.slice ao_v L_v cap_v, .int .i64 st.h.n, .string st.h.r, .slice ao_u L_u cap_u, .int .i64 st.s] 37 (0, 0))) := rowKeep r_s7.out b8
 have r_up8 : Hid (W8.heap[g_up]? = some (.cells #[.slice ao_x L_x cap_x, .int .i64 hd1.n, .string hd1.r, .slice ao_xp L_xp cap_xp, .int .i64 s1] 37 (0, 0))) := rowKeep r_up7.out b8
 have r_low8 : Hid (W8.heap[W5.heap.size]? = some (.cells #[.slice ao_lw L_lw cap_lw, .int .i64 hd2.n, .string hd2.r, .slice ao_lp L_lp cap_lp, .int .i64 s2] 37 (0, 0))) := rowKeep r_low7.out b8
 have o_v8 : Hid (Own W8 (lo_v) (hi_v) 9 (.slice ao_v L_v cap_v) (ss st.l)) := Own.later o_v7.out b8 (by omega)
 have o_u8 : Hid (Own W8 (lo_u) (hi_u) 5 (.slice ao_u L_u cap_u) (bs st.b)) := Own.later o_u7.out b8 (by omega)
 have o_x8 : Hid (Own W8 (lo_x) (hi_x) 9 (.slice ao_x L_x cap_x) (ss l1)) := Own.later o_x7.out b8 (by omega)
 have o_xp8 : Hid (Own W8 (lo_xp) (hi_xp) 5 (.slice ao_xp L_xp cap_xp) (bs b_1)) := Own.later o_xp7.out b8 (by omega)
 have o_lw8 : Hid (Own W8 (lo_lw) (hi_lw) 9 (.slice ao_lw L_lw cap_lw) (ss l2)) := Own.later o_lw7.out b8 (by omega)
 have o_lp8 : Hid (Own W8 (lo_lp) (hi_lp) 5 (.slice ao_lp L_lp cap_lp) (bs b_2)) := Own.later o_lp7.out b8 (by omega)
 have o_ms8 : Hid (Own W8 (lo_ms) (hi_ms) 9 (.slice ao_ms L_ms cap_ms) (ss st.l)) := Own.later o_ms7.out b8 (by omega)
 have o_mp8 : Hid (Own W8 (lo_mp) (hi_mp) 5 (.slice ao_mp L_mp cap_mp) (bs st.b)) := Own.later o_mp7.out b8 (by omega)
 have c_s8_0 : W8.cell? ⟨W1.heap.size, 0, none⟩ = some (.slice ao_v L_v cap_v) := row_at r_s8.out 0
 have c_s8_1 : W8.cell? ⟨W1.heap.size, 1, none⟩ = some (.int .i64 st.h.n) := row_at r_s8.out 1
 have c_s8_2 : W8.cell? ⟨W1.heap.size, 2, none⟩ = some (.string st.h.r) := row_at r_s8.out 2
 have c_s8_3 : W8.cell? ⟨W1.heap.size, 3, none⟩ = some (.slice ao_u L_u cap_u) := row_at r_s8.out 3
 have c_s8_4 : W8.cell? ⟨W1.heap.size, 4, none⟩ = some (.int .i64 st.s) := row_at r_s8.out 4
 have c_up8_0 : W8.cell? ⟨g_up, 0, none⟩ = some (.slice ao_x L_x cap_x) := row_at r_up8.out 0
 have c_up8_1 : W8.cell? ⟨g_up, 1, none⟩ = some (.int .i64 hd1.n) := row_at r_up8.out 1
 have c_up8_2 : W8.cell? ⟨g_up, 2, none⟩ = some (.string hd1.r) := row_at r_up8.out 2
 have c_up8_3 : W8.cell? ⟨g_up, 3, none⟩ = some (.slice ao_xp L_xp cap_xp) := row_at r_up8.out 3
 have c_up8_4 : W8.cell? ⟨g_up, 4, none⟩ = some (.int .i64 s1) := row_at r_up8.out 4
 have c_low8_0 : W8.cell? ⟨W5.heap.size, 0, none⟩ = some (.slice ao_lw L_lw cap_lw) := row_at r_low8.out 0
 have c_low8_1 : W8.cell? ⟨W5.heap.size, 1, none⟩ = some (.int .i64 hd2.n) := row_at r_low8.out 1
 have c_low8_2 : W8.cell? ⟨W5.heap.size, 2, none⟩ = some (.string hd2.r) := row_at r_low8.out 2
 have c_low8_3 : W8.cell? ⟨W5.heap.size, 3, none⟩ = some (.slice ao_lp L_lp cap_lp) := row_at r_low8.out 3
 have c_low8_4 : W8.cell? ⟨W5.heap.size, 4, none⟩ = some (.int .i64 s2) := row_at r_low8.out 4
 clear r_s7 c_s7_0 c_s7_1 c_s7_2 c_s7_3 c_s7_4 r_up7 c_up7_0 c_up7_1 c_up7_2 c_up7_3 c_up7_4 r_low7 c_low7_0 c_low7_1 c_low7_2 c_low7_3 c_low7_4 o_v7 o_u7 o_x7 o_xp7 o_lw7 o_lp7 o_ms7 o_mp7
 have f_t8 : Hid (Sh W8 (.slice ao_t t.length cap_t) t) := Sh.later f_t7.out b8
 clear f_t7
 clear o_ms8
 clear o_mp8
 go_wp2_with fail
 refine (qo3 W8 _ _ B8.out f_t8.out o_f8.out.sl).mono ?_
 rintro e W9 ⟨v_tp, v_tq, rfl, o_tp9, o_tq9, b9⟩
 obtain ⟨lo_tp, hi_tp, lo_tq, hi_tq, d1_tp, d2_tp, d3_tp, d4_tp, d5_tp, d6_tp, d7_tp, oo_tp, oo_tq⟩ := Sr.pairN o_tp9 o_tq9 b9.size
 clear o_tp9 o_tq9
 obtain ⟨ao_tp, L_tp, cap_tp, rfl, _, _⟩ := oo_tp.form
 obtain ⟨ao_tq, L_tq, cap_tq, rfl, _, _⟩ := oo_tq.form
 have o_tp9 : Hid (Own W9 lo_tp hi_tp 9 (.slice ao_tp L_tp cap_tp) (ss st.l)) := oo_tp
 have o_tq9 : Hid (Own W9 lo_tq hi_tq 5 (.slice ao_tq L_tq cap_tq) (bs b_3)) := oo_tq
 clear oo_tp oo_tq
 have z9 : W8.heap.size ≤ W9.heap.size := b9.size
 have B9 : Hid (Below w.heap.size w W9) := B8.out.trans (b9.mono B8.out.size)
 have r_s9 : Hid (W9.heap[W1.heap.size]? = some (.cells #[.slice ao_v L_v cap_v, .int .i64 st.h.n, .string st.h.r, .slice ao_u L_u cap_u, .int .i64 st.s] 37 (0, 0))) := rowKeep r_s8.out b9
 have r_up9 : Hid (W9.heap[g_up]? = some (.cells #[.slice ao_x L_x cap_x, .int .i64 hd1.n, .string hd1.r, .slice ao_xp L_xp cap_xp, .int .i64 s1] 37 (0, 0))) := rowKeep r_up8.out b9
 have r_low9 : Hid (W9.heap[W5.heap.size]? = some (.cells #[.slice ao_lw L_lw cap_lw, .int .i64 hd2.n, .string hd2.r, .slice ao_lp L_lp cap_lp, .int .i64 s2] 37 (0, 0))) := rowKeep r_low8.out b9
 have o_v9 : Hid (Own W9 (lo_v) (hi_v) 9 (.slice ao_v L_v cap_v) (ss st.l)) := Own.later o_v8.out b9 (by omega)
 have o_u9 : Hid (Own W9 (lo_u) (hi_u) 5 (.slice ao_u L_u cap_u) (bs st.b)) := Own.later o_u8.out b9 (by omega)
 have o_x9 : Hid (Own W9 (lo_x) (hi_x) 9 (.slice ao_x L_x cap_x) (ss l1)) := Own.later o_x8.out b9 (by omega)
 have o_xp9 : Hid (Own W9 (lo_xp) (hi_xp) 5 (.slice ao_xp L_xp cap_xp) (bs b_1)) := Own.later o_xp8.out b9 (by omega)
 have o_lw9 : Hid (Own W9 (lo_lw) (hi_lw) 9 (.slice ao_lw L_lw cap_lw) (ss l2)) := Own.later o_lw8.out b9 (by omega)
 have o_lp9 : Hid (Own W9 (lo_lp) (hi_lp) 5 (.slice ao_lp L_lp cap_lp) (bs b_2)) := Own.later o_lp8.out b9 (by omega)
 have o_f9 : Hid (Own W9 (W7.heap.size) (W8.heap.size) 5 (.slice ao_f L_f cap_f) (bs F3)) := Own.later o_f8.out b9 (by omega)
 have c_s9_0 : W9.cell? ⟨W1.heap.size, 0, none⟩ = some (.slice ao_v L_v cap_v) := row_at r_s9.out 0
 have c_s9_1 : W9.cell? ⟨W1.heap.size, 1, none⟩ = some (.int .i64 st.h.n) := row_at r_s9.out 1
 have c_s9_2 : W9.cell? ⟨W1.heap.size, 2, none⟩ = some (.string st.h.r) := row_at r_s9.out 2
 have c_s9_3 : W9.cell? ⟨W1.heap.size, 3, none⟩ = some (.slice ao_u L_u cap_u) := row_at r_s9.out 3
 have c_s9_4 : W9.cell? ⟨W1.heap.size, 4, none⟩ = some (.int .i64 st.s) := row_at r_s9.out 4
 have c_up9_0 : W9.cell? ⟨g_up, 0, none⟩ = some (.slice ao_x L_x cap_x) := row_at r_up9.out 0
 have c_up9_1 : W9.cell? ⟨g_up, 1, none⟩ = some (.int .i64 hd1.n) := row_at r_up9.out 1
 have c_up9_2 : W9.cell? ⟨g_up, 2, none⟩ = some (.string hd1.r) := row_at r_up9.out 2
 have c_up9_3 : W9.cell? ⟨g_up, 3, none⟩ = some (.slice ao_xp L_xp cap_xp) := row_at r_up9.out 3
 have c_up9_4 : W9.cell? ⟨g_up, 4, none⟩ = some (.int .i64 s1) := row_at r_up9.out 4
 have c_low9_0 : W9.cell? ⟨W5.heap.size, 0, none⟩ = some (.slice ao_lw L_lw cap_lw) := row_at r_low9.out 0
 have c_low9_1 : W9.cell? ⟨W5.heap.size, 1, none⟩ = some (.int .i64 hd2.n) := row_at r_low9.out 1
 have c_low9_2 : W9.cell? ⟨W5.heap.size, 2, none⟩ = some (.string hd2.r) := row_at r_low9.out 2
 have c_low9_3 : W9.cell? ⟨W5.heap.size, 3, none⟩ = some (.slice ao_lp L_lp cap_lp) := row_at r_low9.out 3
 have c_low9_4 : W9.cell? ⟨W5.heap.size, 4, none⟩ = some (.int .i64 s2) := row_at r_low9.out 4
 clear r_s8 c_s8_0 c_s8_1 c_s8_2 c_s8_3 c_s8_4 r_up8 c_up8_0 c_up8_1 c_up8_2 c_up8_3 c_up8_4 r_low8 c_low8_0 c_low8_1 c_low8_2 c_low8_3 c_low8_4 o_v8 o_u8 o_x8 o_xp8 o_lw8 o_lp8 o_f8
 have f_t9 : Hid (Sh W9 (.slice ao_t t.length cap_t) t) := Sh.later f_t8.out b9
 clear f_t8
 clear o_f9
 have a_s9_0 : ∀ o, (W9.alloc o).cell? ⟨W1.heap.size, 0, none⟩ = some (.slice ao_v L_v cap_v) := fun o => keepR c_s9_0 ((Below.refl _ _).alloc (Nat.le_refl _) o)
 have a_s9_1 : ∀ o, (W9.alloc o).cell? ⟨W1.heap.size, 1, none⟩ = some (.int .i64 st.h.n) := fun o => keepR c_s9_1 ((Below.refl _ _).alloc (Nat.le_refl _) o)
 have a_s9_2 : ∀ o, (W9.alloc o).cell? ⟨W1.heap.size, 2, none⟩ = some (.string st.h.r) := fun o => keepR c_s9_2 ((Below.refl _ _).alloc (Nat.le_refl _) o)
 have a_s9_3 : ∀ o, (W9.alloc o).cell? ⟨W1.heap.size, 3, none⟩ = some (.slice ao_u L_u cap_u) := fun o => keepR c_s9_3 ((Below.refl _ _).alloc (Nat.le_refl _) o)
 have a_s9_4 : ∀ o, (W9.alloc o).cell? ⟨W1.heap.size, 4, none⟩ = some (.int .i64 st.s) := fun o => keepR c_s9_4 ((Below.refl _ _).alloc (Nat.le_refl _) o)
 have a_up9_0 : ∀ o, (W9.alloc o).cell? ⟨g_up, 0, none⟩ = some (.slice ao_x L_x cap_x) := fun o => keepR c_up9_0 ((Below.refl _ _).alloc (Nat.le_refl _) o)
 have a_up9_1 : ∀ o, (W9.alloc o).cell? ⟨g_up, 1, none⟩ = some (.int .i64 hd1.n) := fun o => keepR c_up9_1 ((Below.refl _ _).alloc (Nat.le_refl _) o)
 have a_up9_2 : ∀ o, (W9.alloc o).cell? ⟨g_up, 2, none⟩ = some (.string hd1.r) := fun o => keepR c_up9_2 ((Below.refl _ _).alloc (Nat.le_refl _) o)
 have a_up9_3 : ∀ o, (W9.alloc o).cell? ⟨g_up, 3, none⟩ = some (.slice ao_xp L_xp cap_xp) := fun o => keepR c_up9_3 ((Below.refl _ _).alloc (Nat.le_refl _) o)
 have a_up9_4 : ∀ o, (W9.alloc o).cell? ⟨g_up, 4, none⟩ = some (.int .i64 s1) := fun o => keepR c_up9_4 ((Below.refl _ _).alloc (Nat.le_refl _) o)
 have a_low9_0 : ∀ o, (W9.alloc o).cell? ⟨W5.heap.size, 0, none⟩ = some (.slice ao_lw L_lw cap_lw) := fun o => keepR c_low9_0 ((Below.refl _ _).alloc (Nat.le_refl _) o)
 have a_low9_1 : ∀ o, (W9.alloc o).cell? ⟨W5.heap.size, 1, none⟩ = some (.int .i64 hd2.n) := fun o => keepR c_low9_1 ((Below.refl _ _).alloc (Nat.le_refl _) o)
 have a_low9_2 : ∀ o, (W9.alloc o).cell? ⟨W5.heap.size, 2, none⟩ = some (.string hd2.r) := fun o => keepR c_low9_2 ((Below.refl _ _).alloc (Nat.le_refl _) o)
 have a_low9_3 : ∀ o, (W9.alloc o).cell? ⟨W5.heap.size, 3, none⟩ = some (.slice ao_lp L_lp cap_lp) := fun o => keepR c_low9_3 ((Below.refl _ _).alloc (Nat.le_refl _) o)
 have a_low9_4 : ∀ o, (W9.alloc o).cell? ⟨W5.heap.size, 4, none⟩ = some (.int .i64 s2) := fun o => keepR c_low9_4 ((Below.refl _ _).alloc (Nat.le_refl _) o)
 obtain ⟨W10, HW10, b10, y10, hS10, r_top10⟩ : ∃ X, Hid ((W9.alloc (.cells #[.slice ao_tp L_tp cap_tp, .int .i64 st.h.n, .string st.h.r, .slice ao_tq L_tq cap_tq, .int .i64 s3] 37)) = X) ∧ Below W9.heap.size W9 X ∧ W9.heap.size + 1 ≤ X.heap.size ∧ Hid (X.heap.size = W9.heap.size + 1) ∧ Hid (X.heap[W9.heap.size]? = some (.cells #[.slice ao_tp L_tp cap_tp, .int .i64 st.h.n, .string st.h.r, .slice ao_tq L_tq cap_tq, .int .i64 s3] 37 (0, 0))) := ⟨_, rfl, ((Below.refl _ _).alloc (Nat.le_refl _) _), by simp, by show _ = _; simp, (by show _ = _; exact alloc_nth1_0 W9 _)⟩
 have z10 : W9.heap.size ≤ W10.heap.size := b10.size
 have B10 : Hid (Below w.heap.size w W10) := B9.out.trans (b10.mono B9.out.size)
 have r_s10 : Hid (W10.heap[W1.heap.size]? = some (.cells #[.slice ao_v L_v cap_v, .int .i64 st.h.n, .string st.h.r, .slice ao_u L_u cap_u, .int .i64 st.s] 37 (0, 0))) := rowKeep r_s9.out b10
 have r_up10 : Hid (W10.heap[g_up]? = some (.cells #[.slice ao_x L_x cap_x, .int .i64 hd1.n, .string hd1.r, .slice ao_xp L_xp cap_xp, .int .i64 s1] 37 (0, 0))) := rowKeep r_up9.out b10
 have r_low10 : Hid (W10.heap[W5.heap.size]? = some (.cells #[.slice ao_lw L_lw cap_lw, .int .i64 hd2.n, .string hd2.r, .slice ao_lp L_lp cap_lp, .int .i64 s2] 37 (0, 0))) := rowKeep r_low9.out b10
 have o_v10 : Hid (Own W10 (lo_v) (hi_v) 9 (.slice ao_v L_v cap_v) (ss st.l)) := Own.later o_v9.out b10 (by omega)
 have o_u10 : Hid (Own W10 (lo_u) (hi_u) 5 (.slice ao_u L_u cap_u) (bs st.b)) := Own.later o_u9.out b10 (by omega)
 have o_x10 : Hid (Own W10 (lo_x) (hi_x) 9 (.slice ao_x L_x cap_x) (ss l1)) := Own.later o_x9.out b10 (by omega)
 have o_xp10 : Hid (Own W10 (lo_xp) (hi_xp) 5 (.slice ao_xp L_xp cap_xp) (bs b_1)) := Own.later o_xp9.out b10 (by omega)
 have o_lw10 : Hid (Own W10 (lo_lw) (hi_lw) 9 (.slice ao_lw L_lw cap_lw) (ss l2)) := Own.later o_lw9.out b10 (by omega)
 have o_lp10 : Hid (Own W10 (lo_lp) (hi_lp) 5 (.slice ao_lp L_lp cap_lp) (bs b_2)) := Own.later o_lp9.out b10 (by omega)
 have o_tp10 : Hid (Own W10 (lo_tp) (hi_tp) 9 (.slice ao_tp L_tp cap_tp) (ss st.l)) := Own.later o_tp9.out b10 (by omega)
 have o_tq10 : Hid (Own W10 (lo_tq) (hi_tq) 5 (.slice ao_tq L_tq cap_tq) (bs b_3)) := Own.later o_tq9.out b10 (by omega)
 have c_s10_0 : W10.cell? ⟨W1.heap.size, 0, none⟩ = some (.slice ao_v L_v cap_v) := row_at r_s10.out 0
 have c_s10_1 : W10.cell? ⟨W1.heap.size, 1, none⟩ = some (.int .i64 st.h.n) := row_at r_s10.out 1
 have c_s10_2 : W10.cell? ⟨W1.heap.size, 2, none⟩ = some (.string st.h.r) := row_at r_s10.out 2
 have c_s10_3 : W10.cell? ⟨W1.heap.size, 3, none⟩ = some (.slice ao_u L_u cap_u) := row_at r_s10.out 3
 have c_s10_4 : W10.cell? ⟨W1.heap.size, 4, none⟩ = some (.int .i64 st.s) := row_at r_s10.out 4
 have c_up10_0 : W10.cell? ⟨g_up, 0, none⟩ = some (.slice ao_x L_x cap_x) := row_at r_up10.out 0
 have c_up10_1 : W10.cell? ⟨g_up, 1, none⟩ = some (.int .i64 hd1.n) := row_at r_up10.out 1
 have c_up10_2 : W10.cell? ⟨g_up, 2, none⟩ = some (.string hd1.r) := row_at r_up10.out 2
 have c_up10_3 : W10.cell? ⟨g_up, 3, none⟩ = some (.slice ao_xp L_xp cap_xp) := row_at r_up10.out 3
 have c_up10_4 : W10.cell? ⟨g_up, 4, none⟩ = some (.int .i64 s1) := row_at r_up10.out 4
 have c_low10_0 : W10.cell? ⟨W5.heap.size, 0, none⟩ = some (.slice ao_lw L_lw cap_lw) := row_at r_low10.out 0
 have c_low10_1 : W10.cell? ⟨W5.heap.size, 1, none⟩ = some (.int .i64 hd2.n) := row_at r_low10.out 1
 have c_low10_2 : W10.cell? ⟨W5.heap.size, 2, none⟩ = some (.string hd2.r) := row_at r_low10.out 2
 have c_low10_3 : W10.cell? ⟨W5.heap.size, 3, none⟩ = some (.slice ao_lp L_lp cap_lp) := row_at r_low10.out 3
 have c_low10_4 : W10.cell? ⟨W5.heap.size, 4, none⟩ = some (.int .i64 s2) := row_at r_low10.out 4
 have c_top10_0 : W10.cell? ⟨W9.heap.size, 0, none⟩ = some (.slice ao_tp L_tp cap_tp) := row_at r_top10.out 0
 have c_top10_1 : W10.cell? ⟨W9.heap.size, 1, none⟩ = some (.int .i64 st.h.n) := row_at r_top10.out 1
 have c_top10_2 : W10.cell? ⟨W9.heap.size, 2, none⟩ = some (.string st.h.r) := row_at r_top10.out 2
 have c_top10_3 : W10.cell? ⟨W9.heap.size, 3, none⟩ = some (.slice ao_tq L_tq cap_tq) := row_at r_top10.out 3
 have c_top10_4 : W10.cell? ⟨W9.heap.size, 4, none⟩ = some (.int .i64 s3) := row_at r_top10.out 4
 clear r_s9 c_s9_0 c_s9_1 c_s9_2 c_s9_3 c_s9_4 r_up9 c_up9_0 c_up9_1 c_up9_2 c_up9_3 c_up9_4 r_low9 c_low9_0 c_low9_1 c_low9_2 c_low9_3 c_low9_4 o_v9 o_u9 o_x9 o_xp9 o_lw9 o_lp9 o_tp9 o_tq9
 have f_t10 : Hid (Sh W10 (.slice ao_t t.length cap_t) t) := Sh.later f_t9.out b10
 clear f_t9
 go_wp2_with fail
 rw [HW10.out]
 clear a_s9_0 a_s9_1 a_s9_2 a_s9_3 a_s9_4 a_up9_0 a_up9_1 a_up9_2 a_up9_3 a_up9_4 a_low9_0 a_low9_1 a_low9_2 a_low9_3 a_low9_4
 refine (qk1 W10 _ _ B10.out o_v10.out.sl o_u10.out.sl).mono ?_
 rintro e W11 ⟨rfl, b11⟩
 have z11 : W10.heap.size ≤ W11.heap.size := b11.size
 have B11 : Hid (Below w.heap.size w W11) := B10.out.trans (b11.mono B10.out.size)
 have r_s11 : Hid (W11.heap[W1.heap.size]? = some (.cells #[.slice ao_v L_v cap_v, .int .i64 st.h.n, .string st.h.r, .slice ao_u L_u cap_u, .int .i64 st.s] 37 (0, 0))) := rowKeep r_s10.out b11
 have r_up11 : Hid (W11.heap[g_up]? = some (.cells #[.slice ao_x L_x cap_x, .int .i64 hd1.n, .string hd1.r, .slice ao_xp L_xp cap_xp, .int .i64 s1] 37 (0, 0))) := rowKeep r_up10.out b11
 have r_low11 : Hid (W11.heap[W5.heap.size]? = some (.cells #[.slice ao_lw L_lw cap_lw, .int .i64 hd2.n, .string hd2.r, .slice ao_lp L_lp cap_lp, .int .i64 s2] 37 (0, 0))) := rowKeep r_low10.out b11
 have r_top11 : Hid (W11.heap[W9.heap.size]? = some (.cells #[.slice ao_tp L_tp cap_tp, .int .i64 st.h.n, .string st.h.r, .slice ao_tq L_tq cap_tq, .int .i64 s3] 37 (0, 0))) := rowKeep r_top10.out b11
 have o_v11 : Hid (Own W11 (lo_v) (hi_v) 9 (.slice ao_v L_v cap_v) (ss st.l)) := Own.later o_v10.out b11 (by omega)
 have o_u11 : Hid (Own W11 (lo_u) (hi_u) 5 (.slice ao_u L_u cap_u) (bs st.b)) := Own.later o_u10.out b11 (by omega)
 have o_x11 : Hid (Own W11 (lo_x) (hi_x) 9 (.slice ao_x L_x cap_x) (ss l1)) := Own.later o_x10.out b11 (by omega)
 have o_xp11 : Hid (Own W11 (lo_xp) (hi_xp) 5 (.slice ao_xp L_xp cap_xp) (bs b_1)) := Own.later o_xp10.out b11 (by omega)
 have o_lw11 : Hid (Own W11 (lo_lw) (hi_lw) 9 (.slice ao_lw L_lw cap_lw) (ss l2)) := Own.later o_lw10.out b11 (by omega)
 have o_lp11 : Hid (Own W11 (lo_lp) (hi_lp) 5 (.slice ao_lp L_lp cap_lp) (bs b_2)) := Own.later o_lp10.out b11 (by omega)
 have o_tp11 : Hid (Own W11 (lo_tp) (hi_tp) 9 (.slice ao_tp L_tp cap_tp) (ss st.l)) := Own.later o_tp10.out b11 (by omega)
 have o_tq11 : Hid (Own W11 (lo_tq) (hi_tq) 5 (.slice ao_tq L_tq cap_tq) (bs b_3)) := Own.later o_tq10.out b11 (by omega)
 have c_s11_0 : W11.cell? ⟨W1.heap.size, 0, none⟩ = some (.slice ao_v L_v cap_v) := row_at r_s11.out 0
 have c_s11_1 : W11.cell? ⟨W1.heap.size, 1, none⟩ = some (.int .i64 st.h.n) := row_at r_s11.out 1
 have c_s11_2 : W11.cell? ⟨W1.heap.size, 2, none⟩ = some (.string st.h.r) := row_at r_s11.out 2
 have c_s11_3 : W11.cell? ⟨W1.heap.size, 3, none⟩ = some (.slice ao_u L_u cap_u) := row_at r_s11.out 3
 have c_s11_4 : W11.cell? ⟨W1.heap.size, 4, none⟩ = some (.int .i64 st.s) := row_at r_s11.out 4
 have c_up11_0 : W11.cell? ⟨g_up, 0, none⟩ = some (.slice ao_x L_x cap_x) := row_at r_up11.out 0
 have c_up11_1 : W11.cell? ⟨g_up, 1, none⟩ = some (.int .i64 hd1.n) := row_at r_up11.out 1
 have c_up11_2 : W11.cell? ⟨g_up, 2, none⟩ = some (.string hd1.r) := row_at r_up11.out 2
 have c_up11_3 : W11.cell? ⟨g_up, 3, none⟩ = some (.slice ao_xp L_xp cap_xp) := row_at r_up11.out 3
 have c_up11_4 : W11.cell? ⟨g_up, 4, none⟩ = some (.int .i64 s1) := row_at r_up11.out 4
 have c_low11_0 : W11.cell? ⟨W5.heap.size, 0, none⟩ = some (.slice ao_lw L_lw cap_lw) := row_at r_low11.out 0
 have c_low11_1 : W11.cell? ⟨W5.heap.size, 1, none⟩ = some (.int .i64 hd2.n) := row_at r_low11.out 1
 have c_low11_2 : W11.cell? ⟨W5.heap.size, 2, none⟩ = some (.string hd2.r) := row_at r_low11.out 2
 have c_low11_3 : W11.cell? ⟨W5.heap.size, 3, none⟩ = some (.slice ao_lp L_lp cap_lp) := row_at r_low11.out 3
 have c_low11_4 : W11.cell? ⟨W5.heap.size, 4, none⟩ = some (.int .i64 s2) := row_at r_low11.out 4
 have c_top11_0 : W11.cell? ⟨W9.heap.size, 0, none⟩ = some (.slice ao_tp L_tp cap_tp) := row_at r_top11.out 0
 have c_top11_1 : W11.cell? ⟨W9.heap.size, 1, none⟩ = some (.int .i64 st.h.n) := row_at r_top11.out 1
 have c_top11_2 : W11.cell? ⟨W9.heap.size, 2, none⟩ = some (.string st.h.r) := row_at r_top11.out 2
 have c_top11_3 : W11.cell? ⟨W9.heap.size, 3, none⟩ = some (.slice ao_tq L_tq cap_tq) := row_at r_top11.out 3
 have c_top11_4 : W11.cell? ⟨W9.heap.size, 4, none⟩ = some (.int .i64 s3) := row_at r_top11.out 4
 clear r_s10 c_s10_0 c_s10_1 c_s10_2 c_s10_3 c_s10_4 r_up10 c_up10_0 c_up10_1 c_up10_2 c_up10_3 c_up10_4 r_low10 c_low10_0 c_low10_1 c_low10_2 c_low10_3 c_low10_4 r_top10 c_top10_0 c_top10_1 c_top10_2 c_top10_3 c_top10_4 o_v10 o_u10 o_x10 o_xp10 o_lw10 o_lp10 o_tp10 o_tq10
 have f_t11 : Hid (Sh W11 (.slice ao_t t.length cap_t) t) := Sh.later f_t10.out b11
 clear f_t10
 go_wp2_with fail
 refine (qk2 W11 _ _ B11.out o_x11.out.sl o_xp11.out.sl).mono ?_
 rintro e W12 ⟨rfl, b12⟩
 have z12 : W11.heap.size ≤ W12.heap.size := b12.size
 have B12 : Hid (Below w.heap.size w W12) := B11.out.trans (b12.mono B11.out.size)
 have r_s12 : Hid (W12.heap[W1.heap.size]? = some (.cells #[.slice ao_v L_v cap_v, .int .i64 st.h.n, .string st.h.r, .slice ao_u L_u cap_u, .int .i64 st.s] 37 (0, 0))) := rowKeep r_s11.out b12
 have r_up12 : Hid (W12.heap[g_up]? = some (.cells #[.slice ao_x L_x cap_x, .int .i64 hd1.n, .string hd1.r, .slice ao_xp L_xp cap_xp, .int .i64 s1] 37 (0, 0))) := rowKeep r_up11.out b12
 have r_low12 : Hid (W12.heap[W5.heap.size]? = some (.cells #[.slice ao_lw L_lw cap_lw, .int .i64 hd2.n, .string hd2.r, .slice ao_lp L_lp cap_lp, .int .i64 s2] 37 (0, 0))) := rowKeep r_low11.out b12
 have r_top12 : Hid (W12.heap[W9.heap.size]? = some (.cells #[.slice ao_tp L_tp cap_tp, .int .i64 st.h.n, .string st.h.r, .slice ao_tq L_tq cap_tq, .int .i64 s3] 37 (0, 0))) := rowKeep r_top11.out b12
 have o_v12 : Hid (Own W12 (lo_v) (hi_v) 9 (.slice ao_v L_v cap_v) (ss st.l)) := Own.later o_v11.out b12 (by omega)
 have o_u12 : Hid (Own W12 (lo_u) (hi_u) 5 (.slice ao_u L_u cap_u) (bs st.b)) := Own.later o_u11.out b12 (by omega)
 have o_x12 : Hid (Own W12 (lo_x) (hi_x) 9 (.slice ao_x L_x cap_x) (ss l1)) := Own.later o_x11.out b12 (by omega)
 have o_xp12 : Hid (Own W12 (lo_xp) (hi_xp) 5 (.slice ao_xp L_xp cap_xp) (bs b_1)) := Own.later o_xp11.out b12 (by omega)
 have o_lw12 : Hid (Own W12 (lo_lw) (hi_lw) 9 (.slice ao_lw L_lw cap_lw) (ss l2)) := Own.later o_lw11.out b12 (by omega)
 have o_lp12 : Hid (Own W12 (lo_lp) (hi_lp) 5 (.slice ao_lp L_lp cap_lp) (bs b_2)) := Own.later o_lp11.out b12 (by omega)
 have o_tp12 : Hid (Own W12 (lo_tp) (hi_tp) 9 (.slice ao_tp L_tp cap_tp) (ss st.l)) := Own.later o_tp11.out b12 (by omega)
 have o_tq12 : Hid (Own W12 (lo_tq) (hi_tq) 5 (.slice ao_tq L_tq cap_tq) (bs b_3)) := Own.later o_tq11.out b12 (by omega)
 have c_s12_0 : W12.cell? ⟨W1.heap.size, 0, none⟩ = some (.slice ao_v L_v cap_v) := row_at r_s12.out 0
 have c_s12_1 : W12.cell? ⟨W1.heap.size, 1, none⟩ = some (.int .i64 st.h.n) := row_at r_s12.out 1
 have c_s12_2 : W12.cell? ⟨W1.heap.size, 2, none⟩ = some (.string st.h.r) := row_at r_s12.out 2
 have c_s12_3 : W12.cell? ⟨W1.heap.size, 3, none⟩ = some (.slice ao_u L_u cap_u) := row_at r_s12.out 3
 have c_s12_4 : W12.cell? ⟨W1.heap.size, 4, none⟩ = some (.int .i64 st.s) := row_at r_s12.out 4
 have c_up12_0 : W12.cell? ⟨g_up, 0, none⟩ = some (.slice ao_x L_x cap_x) := row_at r_up12.out 0
 have c_up12_1 : W12.cell? ⟨g_up, 1, none⟩ = some (.int .i64 hd1.n) := row_at r_up12.out 1
 have c_up12_2 : W12.cell? ⟨g_up, 2, none⟩ = some (.string hd1.r) := row_at r_up12.out 2
 have c_up12_3 : W12.cell? ⟨g_up, 3, none⟩ = some (.slice ao_xp L_xp cap_xp) := row_at r_up12.out 3
 have c_up12_4 : W12.cell? ⟨g_up, 4, none⟩ = some (.int .i64 s1) := row_at r_up12.out 4
 have c_low12_0 : W12.cell? ⟨W5.heap.size, 0, none⟩ = some (.slice ao_lw L_lw cap_lw) := row_at r_low12.out 0
 have c_low12_1 : W12.cell? ⟨W5.heap.size, 1, none⟩ = some (.int .i64 hd2.n) := row_at r_low12.out 1
 have c_low12_2 : W12.cell? ⟨W5.heap.size, 2, none⟩ = some (.string hd2.r) := row_at r_low12.out 2
 have c_low12_3 : W12.cell? ⟨W5.heap.size, 3, none⟩ = some (.slice ao_lp L_lp cap_lp) := row_at r_low12.out 3
 have c_low12_4 : W12.cell? ⟨W5.heap.size, 4, none⟩ = some (.int .i64 s2) := row_at r_low12.out 4
 have c_top12_0 : W12.cell? ⟨W9.heap.size, 0, none⟩ = some (.slice ao_tp L_tp cap_tp) := row_at r_top12.out 0
 have c_top12_1 : W12.cell? ⟨W9.heap.size, 1, none⟩ = some (.int .i64 st.h.n) := row_at r_top12.out 1
 have c_top12_2 : W12.cell? ⟨W9.heap.size, 2, none⟩ = some (.string st.h.r) := row_at r_top12.out 2
 have c_top12_3 : W12.cell? ⟨W9.heap.size, 3, none⟩ = some (.slice ao_tq L_tq cap_tq) := row_at r_top12.out 3
 have c_top12_4 : W12.cell? ⟨W9.heap.size, 4, none⟩ = some (.int .i64 s3) := row_at r_top12.out 4
 clear r_s11 c_s11_0 c_s11_1 c_s11_2 c_s11_3 c_s11_4 r_up11 c_up11_0 c_up11_1 c_up11_2 c_up11_3 c_up11_4 r_low11 c_low11_0 c_low11_1 c_low11_2 c_low11_3 c_low11_4 r_top11 c_top11_0 c_top11_1 c_top11_2 c_top11_3 c_top11_4 o_v11 o_u11 o_x11 o_xp11 o_lw11 o_lp11 o_tp11 o_tq11
 have f_t12 : Hid (Sh W12 (.slice ao_t t.length cap_t) t) := Sh.later f_t11.out b12
 clear f_t11
 obtain rfl : L_xp = b_1.length := by obtain ⟨a9, L9, c9, he, h1, h2⟩ := Mem.Own.form o_xp12.out; injection he with _ he2 _; rw [bs_len] at h1 h2; omega
 have P3a := P3.out
 have nn : (s1 != (b_1.length : Int)) = false := by rw [P3a]; simp
 have nm : (s1 == (b_1.length : Int)) = true := by rw [P3a]; simp
 clear P3a
 go_wp2_with fail
 refine (begins_true W12 _ _ l2 l1 o_lw12.out.sl o_x12.out.sl P4.out (by omega)).mono ?_
 rintro e W13 ⟨rfl, b13⟩
 have z13 : W12.heap.size ≤ W13.heap.size := b13.size
 have B13 : Hid (Below w.heap.size w W13) := B12.out.trans (b13.mono B12.out.size)
 have r_s13 : Hid (W13.heap[W1.heap.size]? = some (.cells #[.slice ao_v L_v cap_v, .int .i64 st.h.n, .string st.h.r, .slice ao_u L_u cap_u, .int .i64 st.s] 37 (0, 0))) := rowKeep r_s12.out b13
 have r_up13 : Hid (W13.heap[g_up]? = some (.cells #[.slice ao_x L_x cap_x, .int .i64 hd1.n, .string hd1.r, .slice ao_xp b_1.length cap_xp, .int .i64 s1] 37 (0, 0))) := rowKeep r_up12.out b13
 have r_low13 : Hid (W13.heap[W5.heap.size]? = some (.cells #[.slice ao_lw L_lw cap_lw, .int .i64 hd2.n, .string hd2.r, .slice ao_lp L_lp cap_lp, .int .i64 s2] 37 (0, 0))) := rowKeep r_low12.out b13
 have r_top13 : Hid (W13.heap[W9.heap.size]? = some (.cells #[.slice ao_tp L_tp cap_tp, .int .i64 st.h.n, .string st.h.r, .slice ao_tq L_tq cap_tq, .int .i64 s3] 37 (0, 0))) := rowKeep r_top12.out b13
 have o_v13 : Hid (Own W13 (lo_v) (hi_v) 9 (.slice ao_v L_v cap_v) (ss st.l)) := Own.later o_v12.out b13 (by omega)
 have o_u13 : Hid (Own W13 (lo_u) (hi_u) 5 (.slice ao_u L_u cap_u) (bs st.b)) := Own.later o_u12.out b13 (by omega)
 have o_x13 : Hid (Own W13 (lo_x) (hi_x) 9 (.slice ao_x L_x cap_x) (ss l1)) := Own.later o_x12.out b13 (by omega)
 have o_xp13 : Hid (Own W13 (lo_xp) (hi_xp) 5 (.slice ao_xp b_1.length cap_xp) (bs b_1)) := Own.later o_xp12.out b13 (by omega)
 have o_lw13 : Hid (Own W13 (lo_lw) (hi_lw) 9 (.slice ao_lw L_lw cap_lw) (ss l2)) := Own.later o_lw12.out b13 (by omega)
 have o_lp13 : Hid (Own W13 (lo_lp) (hi_lp) 5 (.slice ao_lp L_lp cap_lp) (bs b_2)) := Own.later o_lp12.out b13 (by omega)
 have o_tp13 : Hid (Own W13 (lo_tp) (hi_tp) 9 (.slice ao_tp L_tp cap_tp) (ss st.l)) := Own.later o_tp12.out b13 (by omega)
 have o_tq13 : Hid (Own W13 (lo_tq) (hi_tq) 5 (.slice ao_tq L_tq cap_tq) (bs b_3)) := Own.later o_tq12.out b13 (by omega)
 have c_s13_0 : W13.cell? ⟨W1.heap.size, 0, none⟩ = some (.slice ao_v L_v cap_v) := row_at r_s13.out 0
 have c_s13_1 : W13.cell? ⟨W1.heap.size, 1, none⟩ = some (.int .i64 st.h.n) := row_at r_s13.out 1
 have c_s13_2 : W13.cell? ⟨W1.heap.size, 2, none⟩ = some (.string st.h.r) := row_at r_s13.out 2
 have c_s13_3 : W13.cell? ⟨W1.heap.size, 3, none⟩ = some (.slice ao_u L_u cap_u) := row_at r_s13.out 3
 have c_s13_4 : W13.cell? ⟨W1.heap.size, 4, none⟩ = some (.int .i64 st.s) := row_at r_s13.out 4
 have c_up13_0 : W13.cell? ⟨g_up, 0, none⟩ = some (.slice ao_x L_x cap_x) := row_at r_up13.out 0
 have c_up13_1 : W13.cell? ⟨g_up, 1, none⟩ = some (.int .i64 hd1.n) := row_at r_up13.out 1
 have c_up13_2 : W13.cell? ⟨g_up, 2, none⟩ = some (.string hd1.r) := row_at r_up13.out 2
 have c_up13_3 : W13.cell? ⟨g_up, 3, none⟩ = some (.slice ao_xp b_1.length cap_xp) := row_at r_up13.out 3
 have c_up13_4 : W13.cell? ⟨g_up, 4, none⟩ = some (.int .i64 s1) := row_at r_up13.out 4
 have c_low13_0 : W13.cell? ⟨W5.heap.size, 0, none⟩ = some (.slice ao_lw L_lw cap_lw) := row_at r_low13.out 0
 have c_low13_1 : W13.cell? ⟨W5.heap.size, 1, none⟩ = some (.int .i64 hd2.n) := row_at r_low13.out 1
 have c_low13_2 : W13.cell? ⟨W5.heap.size, 2, none⟩ = some (.string hd2.r) := row_at r_low13.out 2
 have c_low13_3 : W13.cell? ⟨W5.heap.size, 3, none⟩ = some (.slice ao_lp L_lp cap_lp) := row_at r_low13.out 3
 have c_low13_4 : W13.cell? ⟨W5.heap.size, 4, none⟩ = some (.int .i64 s2) := row_at r_low13.out 4
 have c_top13_0 : W13.cell? ⟨W9.heap.size, 0, none⟩ = some (.slice ao_tp L_tp cap_tp) := row_at r_top13.out 0
 have c_top13_1 : W13.cell? ⟨W9.heap.size, 1, none⟩ = some (.int .i64 st.h.n) := row_at r_top13.out 1
 have c_top13_2 : W13.cell? ⟨W9.heap.size, 2, none⟩ = some (.string st.h.r) := row_at r_top13.out 2
 have c_top13_3 : W13.cell? ⟨W9.heap.size, 3, none⟩ = some (.slice ao_tq L_tq cap_tq) := row_at r_top13.out 3
 have c_top13_4 : W13.cell? ⟨W9.heap.size, 4, none⟩ = some (.int .i64 s3) := row_at r_top13.out 4
 clear r_s12 c_s12_0 c_s12_1 c_s12_2 c_s12_3 c_s12_4 r_up12 c_up12_0 c_up12_1 c_up12_2 c_up12_3 c_up12_4 r_low12 c_low12_0 c_low12_1 c_low12_2 c_low12_3 c_low12_4 r_top12 c_top12_0 c_top12_1 c_top12_2 c_top12_3 c_top12_4 o_v12 o_u12 o_x12 o_xp12 o_lw12 o_lp12 o_tp12 o_tq12
 have f_t13 : Hid (Sh W13 (.slice ao_t t.length cap_t) t) := Sh.later f_t12.out b13
 clear f_t12
 go_wp2_with fail
 refine (begins_true W13 _ _ l1 st.l o_x13.out.sl o_v13.out.sl P5.out (by omega)).mono ?_
 rintro e W14 ⟨rfl, b14⟩
 have z14 : W13.heap.size ≤ W14.heap.size := b14.size
 have B14 : Hid (Below w.heap.size w W14) := B13.out.trans (b14.mono B13.out.size)
 have r_s14 : Hid (W14.heap[W1.heap.size]? = some (.cells #[.slice ao_v L_v cap_v, .int .i64 st.h.n, .string st.h.r, .slice ao_u L_u cap_u, .int .i64 st.s] 37 (0, 0))) := rowKeep r_s13.out b14
 have r_up14 : Hid (W14.heap[g_up]? = some (.cells #[.slice ao_x L_x cap_x, .int .i64 hd1.n, .string hd1.r, .slice ao_xp b_1.length cap_xp, .int .i64 s1] 37 (0, 0))) := rowKeep r_up13.out b14
 have r_low14 : Hid (W14.heap[W5.heap.size]? = some (.cells #[.slice ao_lw L_lw cap_lw, .int .i64 hd2.n, .string hd2.r, .slice ao_lp L_lp cap_lp, .int .i64 s2] 37 (0, 0))) := rowKeep r_low13.out b14
 have r_top14 : Hid (W14.heap[W9.heap.size]? = some (.cells #[.slice ao_tp L_tp cap_tp, .int .i64 st.h.n, .string st.h.r, .slice ao_tq L_tq cap_tq, .int .i64 s3] 37 (0, 0))) := rowKeep r_top13.out b14
 have o_v14 : Hid (Own W14 (lo_v) (hi_v) 9 (.slice ao_v L_v cap_v) (ss st.l)) := Own.later o_v13.out b14 (by omega)
 have o_u14 : Hid (Own W14 (lo_u) (hi_u) 5 (.slice ao_u L_u cap_u) (bs st.b)) := Own.later o_u13.out b14 (by omega)
 have o_x14 : Hid (Own W14 (lo_x) (hi_x) 9 (.slice ao_x L_x cap_x) (ss l1)) := Own.later o_x13.out b14 (by omega)
 have o_xp14 : Hid (Own W14 (lo_xp) (hi_xp) 5 (.slice ao_xp b_1.length cap_xp) (bs b_1)) := Own.later o_xp13.out b14 (by omega)
 have o_lw14 : Hid (Own W14 (lo_lw) (hi_lw) 9 (.slice ao_lw L_lw cap_lw) (ss l2)) := Own.later o_lw13.out b14 (by omega)
 have o_lp14 : Hid (Own W14 (lo_lp) (hi_lp) 5 (.slice ao_lp L_lp cap_lp) (bs b_2)) := Own.later o_lp13.out b14 (by omega)
 have o_tp14 : Hid (Own W14 (lo_tp) (hi_tp) 9 (.slice ao_tp L_tp cap_tp) (ss st.l)) := Own.later o_tp13.out b14 (by omega)
 have o_tq14 : Hid (Own W14 (lo_tq) (hi_tq) 5 (.slice ao_tq L_tq cap_tq) (bs b_3)) := Own.later o_tq13.out b14 (by omega)
 have c_s14_0 : W14.cell? ⟨W1.heap.size, 0, none⟩ = some (.slice ao_v L_v cap_v) := row_at r_s14.out 0
 have c_s14_1 : W14.cell? ⟨W1.heap.size, 1, none⟩ = some (.int .i64 st.h.n) := row_at r_s14.out 1
 have c_s14_2 : W14.cell? ⟨W1.heap.size, 2, none⟩ = some (.string st.h.r) := row_at r_s14.out 2
 have c_s14_3 : W14.cell? ⟨W1.heap.size, 3, none⟩ = some (.slice ao_u L_u cap_u) := row_at r_s14.out 3
 have c_s14_4 : W14.cell? ⟨W1.heap.size, 4, none⟩ = some (.int .i64 st.s) := row_at r_s14.out 4
 have c_up14_0 : W14.cell? ⟨g_up, 0, none⟩ = some (.slice ao_x L_x cap_x) := row_at r_up14.out 0
 have c_up14_1 : W14.cell? ⟨g_up, 1, none⟩ = some (.int .i64 hd1.n) := row_at r_up14.out 1
 have c_up14_2 : W14.cell? ⟨g_up, 2, none⟩ = some (.string hd1.r) := row_at r_up14.out 2
 have c_up14_3 : W14.cell? ⟨g_up, 3, none⟩ = some (.slice ao_xp b_1.length cap_xp) := row_at r_up14.out 3
 have c_up14_4 : W14.cell? ⟨g_up, 4, none⟩ = some (.int .i64 s1) := row_at r_up14.out 4
 have c_low14_0 : W14.cell? ⟨W5.heap.size, 0, none⟩ = some (.slice ao_lw L_lw cap_lw) := row_at r_low14.out 0
 have c_low14_1 : W14.cell? ⟨W5.heap.size, 1, none⟩ = some (.int .i64 hd2.n) := row_at r_low14.out 1
 have c_low14_2 : W14.cell? ⟨W5.heap.size, 2, none⟩ = some (.string hd2.r) := row_at r_low14.out 2
 have c_low14_3 : W14.cell? ⟨W5.heap.size, 3, none⟩ = some (.slice ao_lp L_lp cap_lp) := row_at r_low14.out 3
 have c_low14_4 : W14.cell? ⟨W5.heap.size, 4, none⟩ = some (.int .i64 s2) := row_at r_low14.out 4
 have c_top14_0 : W14.cell? ⟨W9.heap.size, 0, none⟩ = some (.slice ao_tp L_tp cap_tp) := row_at r_top14.out 0
 have c_top14_1 : W14.cell? ⟨W9.heap.size, 1, none⟩ = some (.int .i64 st.h.n) := row_at r_top14.out 1
 have c_top14_2 : W14.cell? ⟨W9.heap.size, 2, none⟩ = some (.string st.h.r) := row_at r_top14.out 2
 have c_top14_3 : W14.cell? ⟨W9.heap.size, 3, none⟩ = some (.slice ao_tq L_tq cap_tq) := row_at r_top14.out 3
 have c_top14_4 : W14.cell? ⟨W9.heap.size, 4, none⟩ = some (.int .i64 s3) := row_at r_top14.out 4
 clear r_s13 c_s13_0 c_s13_1 c_s13_2 c_s13_3 c_s13_4 r_up13 c_up13_0 c_up13_1 c_up13_2 c_up13_3 c_up13_4 r_low13 c_low13_0 c_low13_1 c_low13_2 c_low13_3 c_low13_4 r_top13 c_top13_0 c_top13_1 c_top13_2 c_top13_3 c_top13_4 o_v13 o_u13 o_x13 o_xp13 o_lw13 o_lp13 o_tp13 o_tq13
 have f_t14 : Hid (Sh W14 (.slice ao_t t.length cap_t) t) := Sh.later f_t13.out b14
 clear f_t13
 have ee : ∀ W, _ := fun W => eqlH W st.h st.h
 have hhh : eqH st.h st.h = true := (eqH_iff _ _).2 rfl
 simp only [hhh] at ee
 have gg : ∀ W op y z xs ys, _ := fun W op y z xs ys => grdH W op y z xs ys
 go_wp2_with fail
 refine (Draw.same_true W14 _ _ st.l o_tp14.out.sl o_v14.out.sl (by omega)).mono ?_
 rintro e W15 ⟨rfl, h15, _⟩
 have b15 : Below W14.heap.size W14 W15 := h15 _
 clear h15
 have z15 : W14.heap.size ≤ W15.heap.size := b15.size
 have B15 : Hid (Below w.heap.size w W15) := B14.out.trans (b15.mono B14.out.size)
 have r_s15 : Hid (W15.heap[W1.heap.size]? = some (.cells #[.slice ao_v L_v cap_v, .int .i64 st.h.n, .string st.h.r, .slice ao_u L_u cap_u, .int .i64 st.s] 37 (0, 0))) := rowKeep r_s14.out b15
 have r_up15 : Hid (W15.heap[g_up]? = some (.cells #[.slice ao_x L_x cap_x, .int .i64 hd1.n, .string hd1.r, .slice ao_xp b_1.length cap_xp, .int .i64 s1] 37 (0, 0))) := rowKeep r_up14.out b15
 have r_low15 : Hid (W15.heap[W5.heap.size]? = some (.cells #[.slice ao_lw L_lw cap_lw, .int .i64 hd2.n, .string hd2.r, .slice ao_lp L_lp cap_lp, .int .i64 s2] 37 (0, 0))) := rowKeep r_low14.out b15
 have r_top15 : Hid (W15.heap[W9.heap.size]? = some (.cells #[.slice ao_tp L_tp cap_tp, .int .i64 st.h.n, .string st.h.r, .slice ao_tq L_tq cap_tq, .int .i64 s3] 37 (0, 0))) := rowKeep r_top14.out b15
 have o_v15 : Hid (Own W15 (lo_v) (hi_v) 9 (.slice ao_v L_v cap_v) (ss st.l)) := Own.later o_v14.out b15 (by omega)
 have o_u15 : Hid (Own W15 (lo_u) (hi_u) 5 (.slice ao_u L_u cap_u) (bs st.b)) := Own.later o_u14.out b15 (by omega)
 have o_x15 : Hid (Own W15 (lo_x) (hi_x) 9 (.slice ao_x L_x cap_x) (ss l1)) := Own.later o_x14.out b15 (by omega)
 have o_xp15 : Hid (Own W15 (lo_xp) (hi_xp) 5 (.slice ao_xp b_1.length cap_xp) (bs b_1)) := Own.later o_xp14.out b15 (by omega)
 have o_lw15 : Hid (Own W15 (lo_lw) (hi_lw) 9 (.slice ao_lw L_lw cap_lw) (ss l2)) := Own.later o_lw14.out b15 (by omega)
 have o_lp15 : Hid (Own W15 (lo_lp) (hi_lp) 5 (.slice ao_lp L_lp cap_lp) (bs b_2)) := Own.later o_lp14.out b15 (by omega)
 have o_tp15 : Hid (Own W15 (lo_tp) (hi_tp) 9 (.slice ao_tp L_tp cap_tp) (ss st.l)) := Own.later o_tp14.out b15 (by omega)
 have o_tq15 : Hid (Own W15 (lo_tq) (hi_tq) 5 (.slice ao_tq L_tq cap_tq) (bs b_3)) := Own.later o_tq14.out b15 (by omega)
 have c_s15_0 : W15.cell? ⟨W1.heap.size, 0, none⟩ = some (.slice ao_v L_v cap_v) := row_at r_s15.out 0
 have c_s15_1 : W15.cell? ⟨W1.heap.size, 1, none⟩ = some (.int .i64 st.h.n) := row_at r_s15.out 1
 have c_s15_2 : W15.cell? ⟨W1.heap.size, 2, none⟩ = some (.string st.h.r) := row_at r_s15.out 2
 have c_s15_3 : W15.cell? ⟨W1.heap.size, 3, none⟩ = some (.slice ao_u L_u cap_u) := row_at r_s15.out 3
 have c_s15_4 : W15.cell? ⟨W1.heap.size, 4, none⟩ = some (.int .i64 st.s) := row_at r_s15.out 4
 have c_up15_0 : W15.cell? ⟨g_up, 0, none⟩ = some (.slice ao_x L_x cap_x) := row_at r_up15.out 0
 have c_up15_1 : W15.cell? ⟨g_up, 1, none⟩ = some (.int .i64 hd1.n) := row_at r_up15.out 1
 have c_up15_2 : W15.cell? ⟨g_up, 2, none⟩ = some (.string hd1.r) := row_at r_up15.out 2
 have c_up15_3 : W15.cell? ⟨g_up, 3, none⟩ = some (.slice ao_xp b_1.length cap_xp) := row_at r_up15.out 3
 have c_up15_4 : W15.cell? ⟨g_up, 4, none⟩ = some (.int .i64 s1) := row_at r_up15.out 4
 have c_low15_0 : W15.cell? ⟨W5.heap.size, 0, none⟩ = some (.slice ao_lw L_lw cap_lw) := row_at r_low15.out 0
 have c_low15_1 : W15.cell? ⟨W5.heap.size, 1, none⟩ = some (.int .i64 hd2.n) := row_at r_low15.out 1
 have c_low15_2 : W15.cell? ⟨W5.heap.size, 2, none⟩ = some (.string hd2.r) := row_at r_low15.out 2
 have c_low15_3 : W15.cell? ⟨W5.heap.size, 3, none⟩ = some (.slice ao_lp L_lp cap_lp) := row_at r_low15.out 3
 have c_low15_4 : W15.cell? ⟨W5.heap.size, 4, none⟩ = some (.int .i64 s2) := row_at r_low15.out 4
 have c_top15_0 : W15.cell? ⟨W9.heap.size, 0, none⟩ = some (.slice ao_tp L_tp cap_tp) := row_at r_top15.out 0
 have c_top15_1 : W15.cell? ⟨W9.heap.size, 1, none⟩ = some (.int .i64 st.h.n) := row_at r_top15.out 1
 have c_top15_2 : W15.cell? ⟨W9.heap.size, 2, none⟩ = some (.string st.h.r) := row_at r_top15.out 2
 have c_top15_3 : W15.cell? ⟨W9.heap.size, 3, none⟩ = some (.slice ao_tq L_tq cap_tq) := row_at r_top15.out 3
 have c_top15_4 : W15.cell? ⟨W9.heap.size, 4, none⟩ = some (.int .i64 s3) := row_at r_top15.out 4
 clear r_s14 c_s14_0 c_s14_1 c_s14_2 c_s14_3 c_s14_4 r_up14 c_up14_0 c_up14_1 c_up14_2 c_up14_3 c_up14_4 r_low14 c_low14_0 c_low14_1 c_low14_2 c_low14_3 c_low14_4 r_top14 c_top14_0 c_top14_1 c_top14_2 c_top14_3 c_top14_4 o_v14 o_u14 o_x14 o_xp14 o_lw14 o_lp14 o_tp14 o_tq14
 have f_t15 : Hid (Sh W15 (.slice ao_t t.length cap_t) t) := Sh.later f_t14.out b15
 clear f_t14
 go_wp2
 go_ret
 exact ⟨rfl, B15.out⟩
end Go.Proofs.YtfpaichdkddglaaGreatDoor.Sr
