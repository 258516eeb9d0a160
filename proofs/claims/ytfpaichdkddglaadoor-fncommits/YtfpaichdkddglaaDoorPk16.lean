/- Texts in one: SrN. -/
import Derived.Test.YtfpaichdkddglaaDoorPk11
import Derived.Test.YtfpaichdkddglaaDoorPk12
import Derived.Test.YtfpaichdkddglaaDoorPk14
import Derived.Test.YtfpaichdkddglaaDoorPk10
import Derived.Test.YtfpaichdkddglaaDoorPk15
/- Chapter 12: FnCommits, over contracts of the landed functions. -/
namespace Go.Proofs.YtfpaichdkddglaaDoor.Sr
open Go.RowKit Go.Proofs.YtfpaichdkddglaaDoor.Mem Go.Proofs.YtfpaichdkddglaaDoor.Laws Go.Proofs.YtfpaichdkddglaaDoor.Bytes Go.Proofs.YtfpaichdkddglaaDoor.Sha Go.Proofs.YtfpaichdkddglaaDoor.Tr Go.Proofs.YtfpaichdkddglaaDoor.Draw Go.Proofs.YtfpaichdkddglaaDoor.He Go.Proofs.YtfpaichdkddglaaDoor.Lg
set_option linter.unusedVariables false
set_option linter.unusedSimpArgs false

theorem body_small {h : Hd} {x : List ByteArray} (hh : h.r.size ≤ 32) (hx : x.length ≤ 9) (hz : ∀ s ∈ x, s.size ≤ 3) : (body h x).length ≤ 10000 := by
  have h9 := body_len h x
  have ht : ∀ l : List ByteArray, (∀ s ∈ l, s.size ≤ 3) → Puts.tot l ≤ 3 * l.length := by
    intro l
    induction l with
    | nil => intro _; exact Nat.le_refl _
    | cons a r ih =>
      intro hl
      have h1 := hl a (List.mem_cons_self ..)
      have h2 := ih (fun s hs => hl s (List.mem_cons_of_mem _ hs))
      simp only [Puts.tot, List.length_cons]
      omega
  have := ht x hz
  omega

set_option maxRecDepth 1000000 in
set_option maxHeartbeats 16000000 in
theorem commits12 (w : World) (v0 : Value) (xs0 : List Int) (h0 : Sl w v0 (bs xs0)) (y0 : Byt xs0) (m0 : xs0.length ≤ maxLen)
    (iPut : ∀ W, Below w.heap.size w W → ∀ (v' : Value) (h : Hd) (x : List ByteArray), Sl W v' (ss x) → h.r.size ≤ 1000 → x.length ≤ 1000 → (∀ s ∈ x, s.size ≤ 1000) → Calls Tryd.prog 8 #[.agg #[.int .i64 h.n, .string h.r], v'] W fun e w' => ∃ u, e = .returned u ∧ Own w' W.heap.size w'.heap.size 5 u (bs (putC h x)) ∧ Below W.heap.size W w')
    (iGet : ∀ W, Below w.heap.size w W → ∀ (v' : Value) (b : List Int) (a : Int), Sl W v' (bs b) → Byt b → b.length ≤ 100000 → 0 ≤ a → a ≤ 100000 → Calls Tryd.prog 10 #[v', .int .i64 a] W fun e w' => GotC b a W e w') :
    Calls Tryd.prog 3 #[v0] w fun e w' => e = .returned (.bool true) ∧ Below w.heap.size w w' := by
  have hs := h0
  have hby := y0
  obtain ⟨ao0, cap0, rfl, -, -, -⟩ := h0
  rw [Mem.bs_len] at hs ⊢
  clear m0 y0
  by_cases hbig : 1048576 < xs0.length
  · have qb := big_yes w ao0 xs0.length cap0 hbig
    clear iPut iGet
    go_enter Tryd.func3, Tryd.ntmps3
    go_wp2_with fail
    refine qb.mono ?_
    rintro e w1 ⟨rfl, rfl⟩
    go_wp2
    go_ret
    exact ⟨rfl, Below.refl _ _⟩
  have qb := big_no w ao0 xs0.length cap0 hbig
  have qd : ∀ W, Below w.heap.size w W → _ := fun W hW => drawPut_any W _ xs0 (hs.later hW) hby (by omega)
  have qa : ∀ (i : Nat) W, i ≤ 100 → Below w.heap.size w W → _ := fun i W hi hW => at_any W _ xs0 i (hs.later hW) hby (by omega) hi
  have HS : Hid (Sl w (.slice ao0 xs0.length cap0) (bs xs0)) := hs
  clear hbig hs hby
  have B0 : Hid (Below w.heap.size w w) := Below.refl _ _
  obtain ⟨i5, hi5, hz5a, hz5b, hz5c⟩ := info_parts info5
  go_enter Tryd.func3, Tryd.ntmps3
  go_wp2_with fail
  refine qb.mono ?_
  rintro e W_ ⟨rfl, hW_⟩
  subst hW_
  clear qb
  go_wp2_with fail
  refine (qd w B0.out).mono ?_
  rintro e W1 ⟨v_l, l, h, rfl, hll, hls, hhr, o_l1, b1⟩
  obtain ⟨ao_l, L_l, cap_l, rfl, hL_l, hM_l⟩ := o_l1.form
  have o_l1 : Hid (Own W1 w.heap.size W1.heap.size 9 (.slice ao_l L_l cap_l) (ss l)) := o_l1
  clear hL_l hM_l
  have z1 : w.heap.size ≤ W1.heap.size := b1.size
  have B1 : Hid (Below w.heap.size w W1) := B0.out.trans (b1.mono B0.out.size)
  obtain rfl : L_l = l.length := by obtain ⟨a9, L9, c9, he, h1, h2⟩ := Mem.Own.form o_l1.out; injection he with _ he2 _; rw [ss_len] at h1 h2; omega
  obtain ⟨W2, HW2, b2, y2, hS2, r_h2⟩ : ∃ X, Hid ((W1.alloc (.cells #[.int .i64 h.n, .string h.r] 25)) = X) ∧ Below W1.heap.size W1 X ∧ W1.heap.size + 1 ≤ X.heap.size ∧ Hid (X.heap.size = W1.heap.size + 1) ∧ Hid (X.heap[W1.heap.size]? = some (.cells #[.int .i64 h.n, .string h.r] 25 (0, 0))) := ⟨_, rfl, ((Below.refl _ _).alloc (Nat.le_refl _) _), by simp, by show _ = _; simp, (by show _ = _; exact alloc_nth1_0 W1 _)⟩
  have z2 : W1.heap.size ≤ W2.heap.size := b2.size
  have B2 : Hid (Below w.heap.size w W2) := B1.out.trans (b2.mono B1.out.size)
  have o_l2 : Hid (Own W2 (w.heap.size) (W1.heap.size) 9 (.slice ao_l l.length cap_l) (ss l)) := Own.later o_l1.out b2 (by omega)
  have c_h2_0 : W2.cell? ⟨W1.heap.size, 0, none⟩ = some (.int .i64 h.n) := row_at r_h2.out 0
  have c_h2_1 : W2.cell? ⟨W1.heap.size, 1, none⟩ = some (.string h.r) := row_at r_h2.out 1
  clear o_l1
  have q1 : ∀ W v1, Below w.heap.size w W → Sl W v1 (ss l) → _ := fun W v1 hW h1 => iPut W hW v1 h l h1 (by omega) (by omega) (fun s hs => by have := hls s hs; omega)
  obtain ⟨Pb, hPb⟩ : ∃ P, putC h l = P := ⟨_, rfl⟩
  simp only [hPb] at q1
  have HPB : Hid (putC h l = Pb) := hPb
  have hbl := body_small (h := h) (x := l) hhr (by omega) hls
  have hPl : Pb.length ≤ 20000 := by rw [← hPb]; unfold putC; split; have := put_len h l; omega; simp
  have hPy : Byt Pb := by rw [← hPb]; exact putC_byt h l
  have HPY : Hid (Byt Pb) := hPy
  clear hPb hPy iPut
  go_wp2_with fail
  rw [HW2.out]
  refine (q1 W2 _ B2.out o_l2.out.sl).mono ?_
  rintro e W3 ⟨v_b, rfl, o_b3, b3⟩
  obtain ⟨ao_b, L_b, cap_b, rfl, hL_b, hM_b⟩ := o_b3.form
  have o_b3 : Hid (Own W3 W2.heap.size W3.heap.size 5 (.slice ao_b L_b cap_b) (bs Pb)) := o_b3
  clear hL_b hM_b
  have z3 : W2.heap.size ≤ W3.heap.size := b3.size
  have B3 : Hid (Below w.heap.size w W3) := B2.out.trans (b3.mono B2.out.size)
  have r_h3 : Hid (W3.heap[W1.heap.size]? = some (.cells #[.int .i64 h.n, .string h.r] 25 (0, 0))) := rowKeep r_h2.out b3
  have o_l3 : Hid (Own W3 (w.heap.size) (W1.heap.size) 9 (.slice ao_l l.length cap_l) (ss l)) := Own.later o_l2.out b3 (by omega)
  have c_h3_0 : W3.cell? ⟨W1.heap.size, 0, none⟩ = some (.int .i64 h.n) := row_at r_h3.out 0
  have c_h3_1 : W3.cell? ⟨W1.heap.size, 1, none⟩ = some (.string h.r) := row_at r_h3.out 1
  clear r_h2 c_h2_0 c_h2_1 o_l2
  obtain rfl : L_b = Pb.length := by obtain ⟨a9, L9, c9, he, h1, h2⟩ := Mem.Own.form o_b3.out; injection he with _ he2 _; rw [bs_len] at h1 h2; omega
  have q2 : ∀ W, _ := fun W => ok_spec W h
  obtain ⟨A, hA⟩ : ∃ A, okH h = A := ⟨_, rfl⟩
  simp only [hA] at q2
  have HA : Hid (okH h = A) := hA
  clear hA
  go_wp2_with fail
  refine (q2 W3).mono ?_
  rintro e W4 ⟨rfl, b4⟩
  have z4 : W3.heap.size ≤ W4.heap.size := b4.size
  have B4 : Hid (Below w.heap.size w W4) := B3.out.trans (b4.mono B3.out.size)
  have r_h4 : Hid (W4.heap[W1.heap.size]? = some (.cells #[.int .i64 h.n, .string h.r] 25 (0, 0))) := rowKeep r_h3.out b4
  have o_l4 : Hid (Own W4 (w.heap.size) (W1.heap.size) 9 (.slice ao_l l.length cap_l) (ss l)) := Own.later o_l3.out b4 (by omega)
  have o_b4 : Hid (Own W4 (W2.heap.size) (W3.heap.size) 5 (.slice ao_b Pb.length cap_b) (bs Pb)) := Own.later o_b3.out b4 (by omega)
  have c_h4_0 : W4.cell? ⟨W1.heap.size, 0, none⟩ = some (.int .i64 h.n) := row_at r_h4.out 0
  have c_h4_1 : W4.cell? ⟨W1.heap.size, 1, none⟩ = some (.string h.r) := row_at r_h4.out 1
  clear r_h3 c_h3_0 c_h3_1 o_l3 o_b3
  cases A
  · have hP0 : Pb.length = 0 := by rw [← HPB.out]; unfold putC; rw [if_neg (fun hk => by have h9 := hk.1; rw [HA.out] at h9; exact absurd h9 (by simp))]; rfl
    have hP1 : (Pb.length : Int) = 0 := by omega
    have hP2 : ((Pb.length : Int) == 0) = true := by rw [hP1]; rfl
    clear hP0 hP1
    clear iGet q1 q2
    go_wp2
    go_ret
    exact ⟨rfl, B4.out⟩
  · by_cases hl0 : l.length = 0
    · have d0 : (l.length : Int) = 0 := by omega
      have HL0 : Hid (l.length = 0) := hl0
      clear hl0
      have hP0 : Pb.length = 0 := by rw [← HPB.out]; unfold putC; rw [if_neg (fun hk => by have h9 := hk.2.1; have := HL0.out; omega)]; rfl
      have hP1 : (Pb.length : Int) = 0 := by omega
      have hP2 : ((Pb.length : Int) == 0) = true := by rw [hP1]; rfl
      clear hP0 hP1
      clear iGet q1 q2
      go_wp2
      go_ret
      exact ⟨rfl, B4.out⟩
    · have d0 : ¬ (l.length : Int) = 0 := by omega
      have e0 : Pb = put h l := by rw [← HPB.out]; unfold putC; rw [if_pos ⟨HA.out, by omega, by omega⟩]
      have HE0 : Hid (Pb = put h l) := e0
      have hP5 : 5 ≤ Pb.length := by rw [e0]; exact put_pos h l
      clear e0
      have e1 : getC ([7] ++ Pb) 1 = (h, l, ((1 + Pb.length : Nat) : Int), true) := by
        have g := get_put [7] [] (h := h) (x := l) HA.out (by omega) (by omega) (by omega)
        rw [List.append_nil, ← HE0.out] at g
        exact g
      obtain ⟨N1, hN1, hN2⟩ : ∃ N1 : Int, ((1 + Pb.length : Nat) : Int) = N1 ∧ (N1 == (Pb.length : Int) + 1) = true := ⟨_, rfl, by rw [beq_iff_eq]; omega⟩
      rw [hN1] at e1
      clear hN1
      have q3 : ∀ W v1, Below w.heap.size w W → Sl W v1 (bs ([7] ++ Pb)) → _ := fun W v1 hW h1 => iGet W hW v1 ([7] ++ Pb) 1 h1 (Byt.app (fun y hy => by simp at hy; omega) HPY.out) (by simp; omega) (by omega) (by omega)
      simp only [GotC, e1] at q3
      clear e1
      have a_h4_0 : ∀ o, (W4.alloc o).cell? ⟨W1.heap.size, 0, none⟩ = some (.int .i64 h.n) := fun o => keepR c_h4_0 ((Below.refl _ _).alloc (Nat.le_refl _) o)
      have a_h4_1 : ∀ o, (W4.alloc o).cell? ⟨W1.heap.size, 1, none⟩ = some (.string h.r) := fun o => keepR c_h4_1 ((Below.refl _ _).alloc (Nat.le_refl _) o)
      obtain ⟨W5, HW5, b5, hS5, o_e5⟩ : ∃ X, Hid ((W4.alloc (.cells #[.int .u8 7] 5)) = X) ∧ Below W4.heap.size W4 X ∧ Hid (X.heap.size = W4.heap.size + 1) ∧ Hid (Own X W4.heap.size X.heap.size 5 (.slice (some ⟨W4.heap.size, 0, none⟩) 1 1) (bs [7])) := ⟨_, rfl, (Below.refl _ _).alloc (Nat.le_refl _) _, (by show _ = _; simp), lit1 W4 W4.heap.size 7 (Nat.le_refl _)⟩
      have z5 : W4.heap.size ≤ W5.heap.size := b5.size
      have B5 : Hid (Below w.heap.size w W5) := B4.out.trans (b5.mono B4.out.size)
      have r_h5 : Hid (W5.heap[W1.heap.size]? = some (.cells #[.int .i64 h.n, .string h.r] 25 (0, 0))) := rowKeep r_h4.out b5
      have o_l5 : Hid (Own W5 (w.heap.size) (W1.heap.size) 9 (.slice ao_l l.length cap_l) (ss l)) := Own.later o_l4.out b5 (by omega)
      have o_b5 : Hid (Own W5 (W2.heap.size) (W3.heap.size) 5 (.slice ao_b Pb.length cap_b) (bs Pb)) := Own.later o_b4.out b5 (by omega)
      have c_h5_0 : W5.cell? ⟨W1.heap.size, 0, none⟩ = some (.int .i64 h.n) := row_at r_h5.out 0
      have c_h5_1 : W5.cell? ⟨W1.heap.size, 1, none⟩ = some (.string h.r) := row_at r_h5.out 1
      clear r_h4 c_h4_0 c_h4_1 o_l4 o_b4
      have c6_6 : (bs [7]).length + (bs Pb).length ≤ maxLen := by rw [bs_len, bs_len]; unfold maxLen; (try simp only [List.length_nil]); (try simp only [List.length_cons, List.length_nil]); omega
      have c7_6 : ((bs [7]).length + (bs Pb).length) * 1 ≤ 140737488355328 := by rw [bs_len, bs_len]; (try simp only [List.length_nil]); (try simp only [List.length_cons, List.length_nil]); omega
      have sE6 : Hid (Sl W5 _ (bs Pb)) := o_b5.out.sl
      go_wp2_with (at_builtin; (try rw [HW5.out]); go_must (refine wpl_app _ rfl (.tmp 41) (.tmp 42) 22 rfl 5 i5 (.int .u8 0) 1 Tryd.underlying22 hi5 hz5a hz5b hz5c rfl (W4.heap.size) _ (bs [7]) rfl (Own.mono o_e5.out (Nat.le_refl _) (by omega)) _ rfl (bs Pb) sE6.out (bs_one Pb) c6_6 c7_6 (by omega) ?_))
      intro v_c W6 o_c6 _ g6
      clear a_h4_0 a_h4_1
      have o_c6 : Own W6 (W4.heap.size) W6.heap.size 5 v_c (bs ([7] ++ Pb)) := by show Own _ _ _ _ _ _; rw [bs_app]; exact o_c6
      have o_c6h : Hid (Own W6 (W4.heap.size) W6.heap.size 5 v_c (bs ([7] ++ Pb))) := o_c6
      clear o_c6
      have o_c6 := o_c6h
      clear o_c6h
      obtain ⟨ao_c, L_c, cap_c, rfl, _, _⟩ := Mem.Own.form o_c6.out
      have z6 : W5.heap.size ≤ W6.heap.size := g6.size
      have B6 : Hid (Below w.heap.size w W6) := belowGro B5.out g6 B5.out.size (Own.low o_e5.out (by have := B5.out.size; omega))
      have r_h6 : Hid (W6.heap[W1.heap.size]? = some (.cells #[.int .i64 h.n, .string h.r] 25 (0, 0))) := rowGro r_h5.out g6 (Own.neRow o_e5.out r_h5.out (by decide))
      have o_l6 : Hid (Own W6 (w.heap.size) (W1.heap.size) 9 (.slice ao_l l.length cap_l) (ss l)) := Own.gro o_l5.out g6 (Own.neOwn o_e5.out o_l5.out (by decide))
      have o_b6 : Hid (Own W6 (W2.heap.size) (W3.heap.size) 5 (.slice ao_b Pb.length cap_b) (bs Pb)) := Own.gro o_b5.out g6 (Own.neFar o_e5.out o_b5.out (by omega))
      have c_h6_0 : W6.cell? ⟨W1.heap.size, 0, none⟩ = some (.int .i64 h.n) := row_at r_h6.out 0
      have c_h6_1 : W6.cell? ⟨W1.heap.size, 1, none⟩ = some (.string h.r) := row_at r_h6.out 1
      clear r_h5 c_h5_0 c_h5_1 o_l5 o_b5 o_e5
      clear g6 sE6 c6_6 c7_6
      go_wp2_with fail
      refine (q3 W6 _ B6.out o_c6.out.sl).mono ?_
      rintro e W7 ⟨v_t, rfl, o_t7, b7⟩
      obtain ⟨ao_t, L_t, cap_t, rfl, hL_t, hM_t⟩ := o_t7.form
      have o_t7 : Hid (Own W7 W6.heap.size W7.heap.size 9 (.slice ao_t L_t cap_t) (ss l)) := o_t7
      clear hL_t hM_t
      have z7 : W6.heap.size ≤ W7.heap.size := b7.size
      have B7 : Hid (Below w.heap.size w W7) := B6.out.trans (b7.mono B6.out.size)
      have r_h7 : Hid (W7.heap[W1.heap.size]? = some (.cells #[.int .i64 h.n, .string h.r] 25 (0, 0))) := rowKeep r_h6.out b7
      have o_l7 : Hid (Own W7 (w.heap.size) (W1.heap.size) 9 (.slice ao_l l.length cap_l) (ss l)) := Own.later o_l6.out b7 (by omega)
      have o_b7 : Hid (Own W7 (W2.heap.size) (W3.heap.size) 5 (.slice ao_b Pb.length cap_b) (bs Pb)) := Own.later o_b6.out b7 (by omega)
      have o_c7 : Hid (Own W7 (W4.heap.size) (W6.heap.size) 5 (.slice ao_c L_c cap_c) (bs ([7] ++ Pb))) := Own.later o_c6.out b7 (by omega)
      have c_h7_0 : W7.cell? ⟨W1.heap.size, 0, none⟩ = some (.int .i64 h.n) := row_at r_h7.out 0
      have c_h7_1 : W7.cell? ⟨W1.heap.size, 1, none⟩ = some (.string h.r) := row_at r_h7.out 1
      clear r_h6 c_h6_0 c_h6_1 o_l6 o_b6 o_c6
      clear o_c7
      have a_h7_0 : ∀ o, (W7.alloc o).cell? ⟨W1.heap.size, 0, none⟩ = some (.int .i64 h.n) := fun o => keepR c_h7_0 ((Below.refl _ _).alloc (Nat.le_refl _) o)
      have a_h7_1 : ∀ o, (W7.alloc o).cell? ⟨W1.heap.size, 1, none⟩ = some (.string h.r) := fun o => keepR c_h7_1 ((Below.refl _ _).alloc (Nat.le_refl _) o)
      obtain ⟨W8, HW8, b8, y8, hS8, r_x8⟩ : ∃ X, Hid ((W7.alloc (.cells #[.int .i64 h.n, .string h.r] 25)) = X) ∧ Below W7.heap.size W7 X ∧ W7.heap.size + 1 ≤ X.heap.size ∧ Hid (X.heap.size = W7.heap.size + 1) ∧ Hid (X.heap[W7.heap.size]? = some (.cells #[.int .i64 h.n, .string h.r] 25 (0, 0))) := ⟨_, rfl, ((Below.refl _ _).alloc (Nat.le_refl _) _), by simp, by show _ = _; simp, (by show _ = _; exact alloc_nth1_0 W7 _)⟩
      have z8 : W7.heap.size ≤ W8.heap.size := b8.size
      have B8 : Hid (Below w.heap.size w W8) := B7.out.trans (b8.mono B7.out.size)
      have r_h8 : Hid (W8.heap[W1.heap.size]? = some (.cells #[.int .i64 h.n, .string h.r] 25 (0, 0))) := rowKeep r_h7.out b8
      have o_l8 : Hid (Own W8 (w.heap.size) (W1.heap.size) 9 (.slice ao_l l.length cap_l) (ss l)) := Own.later o_l7.out b8 (by omega)
      have o_b8 : Hid (Own W8 (W2.heap.size) (W3.heap.size) 5 (.slice ao_b Pb.length cap_b) (bs Pb)) := Own.later o_b7.out b8 (by omega)
      have o_t8 : Hid (Own W8 (W6.heap.size) (W7.heap.size) 9 (.slice ao_t L_t cap_t) (ss l)) := Own.later o_t7.out b8 (by omega)
      have c_h8_0 : W8.cell? ⟨W1.heap.size, 0, none⟩ = some (.int .i64 h.n) := row_at r_h8.out 0
      have c_h8_1 : W8.cell? ⟨W1.heap.size, 1, none⟩ = some (.string h.r) := row_at r_h8.out 1
      have c_x8_0 : W8.cell? ⟨W7.heap.size, 0, none⟩ = some (.int .i64 h.n) := row_at r_x8.out 0
      have c_x8_1 : W8.cell? ⟨W7.heap.size, 1, none⟩ = some (.string h.r) := row_at r_x8.out 1
      clear r_h7 c_h7_0 c_h7_1 o_l7 o_b7 o_t7
      have a_h8_0 : ∀ o, (W8.alloc o).cell? ⟨W1.heap.size, 0, none⟩ = some (.int .i64 h.n) := fun o => keepR c_h8_0 ((Below.refl _ _).alloc (Nat.le_refl _) o)
      have a_h8_1 : ∀ o, (W8.alloc o).cell? ⟨W1.heap.size, 1, none⟩ = some (.string h.r) := fun o => keepR c_h8_1 ((Below.refl _ _).alloc (Nat.le_refl _) o)
      have a_x8_0 : ∀ o, (W8.alloc o).cell? ⟨W7.heap.size, 0, none⟩ = some (.int .i64 h.n) := fun o => keepR c_x8_0 ((Below.refl _ _).alloc (Nat.le_refl _) o)
      have a_x8_1 : ∀ o, (W8.alloc o).cell? ⟨W7.heap.size, 1, none⟩ = some (.string h.r) := fun o => keepR c_x8_1 ((Below.refl _ _).alloc (Nat.le_refl _) o)
      obtain ⟨W9, HW9, b9, hS9, o_e89⟩ : ∃ X, Hid ((W8.alloc (.cells #[] 5)) = X) ∧ Below W8.heap.size W8 X ∧ Hid (X.heap.size = W7.heap.size + 1 + 1) ∧ Hid (Own X W8.heap.size X.heap.size 5 (.slice (some ⟨W7.heap.size + 1, 0, none⟩) 0 0) (bs [])) := ⟨_, rfl, (Below.refl _ _).alloc (Nat.le_refl _) _, (by show _ = _; rw [← hS8.out]; simp), (by show Own _ _ _ _ _ _; have h := Puts.Own.empty W8 W8.heap.size (Nat.le_refl _); rw [hS8.out] at h ⊢; exact h)⟩
      have z9 : W8.heap.size ≤ W9.heap.size := b9.size
      have B9 : Hid (Below w.heap.size w W9) := B8.out.trans (b9.mono B8.out.size)
      have r_h9 : Hid (W9.heap[W1.heap.size]? = some (.cells #[.int .i64 h.n, .string h.r] 25 (0, 0))) := rowKeep r_h8.out b9
      have r_x9 : Hid (W9.heap[W7.heap.size]? = some (.cells #[.int .i64 h.n, .string h.r] 25 (0, 0))) := rowKeep r_x8.out b9
      have o_l9 : Hid (Own W9 (w.heap.size) (W1.heap.size) 9 (.slice ao_l l.length cap_l) (ss l)) := Own.later o_l8.out b9 (by omega)
      have o_b9 : Hid (Own W9 (W2.heap.size) (W3.heap.size) 5 (.slice ao_b Pb.length cap_b) (bs Pb)) := Own.later o_b8.out b9 (by omega)
      have o_t9 : Hid (Own W9 (W6.heap.size) (W7.heap.size) 9 (.slice ao_t L_t cap_t) (ss l)) := Own.later o_t8.out b9 (by omega)
      have c_h9_0 : W9.cell? ⟨W1.heap.size, 0, none⟩ = some (.int .i64 h.n) := row_at r_h9.out 0
      have c_h9_1 : W9.cell? ⟨W1.heap.size, 1, none⟩ = some (.string h.r) := row_at r_h9.out 1
      have c_x9_0 : W9.cell? ⟨W7.heap.size, 0, none⟩ = some (.int .i64 h.n) := row_at r_x9.out 0
      have c_x9_1 : W9.cell? ⟨W7.heap.size, 1, none⟩ = some (.string h.r) := row_at r_x9.out 1
      clear r_h8 c_h8_0 c_h8_1 r_x8 c_x8_0 c_x8_1 o_l8 o_b8 o_t8
      have c6_10 : (bs []).length + (bs Pb).length ≤ maxLen := by rw [bs_len, bs_len]; unfold maxLen; (try simp only [List.length_nil]); omega
      have c7_10 : ((bs []).length + (bs Pb).length) * 1 ≤ 140737488355328 := by rw [bs_len, bs_len]; (try simp only [List.length_nil]); omega
      have sE10 : Hid (Sl W9 _ (bs Pb)) := o_b9.out.sl
      go_wp2_with (at_builtin; (try rw [HW8.out, HW9.out]); go_must (refine wpl_app _ rfl (.tmp 49) (.tmp 50) 22 rfl 5 i5 (.int .u8 0) 1 Tryd.underlying22 hi5 hz5a hz5b hz5c rfl (W8.heap.size) _ (bs []) rfl (Own.mono o_e89.out (Nat.le_refl _) (by omega)) _ rfl (bs Pb) sE10.out (bs_one Pb) c6_10 c7_10 (by omega) ?_))
      intro v_y W10 o_y10 _ g10
      clear a_h7_0 a_h7_1 a_h8_0 a_h8_1 a_x8_0 a_x8_1
      have o_y10 : Own W10 (W8.heap.size) W10.heap.size 5 v_y (bs Pb) := o_y10
      have o_y10h : Hid (Own W10 (W8.heap.size) W10.heap.size 5 v_y (bs Pb)) := o_y10
      clear o_y10
      have o_y10 := o_y10h
      clear o_y10h
      obtain ⟨ao_y, L_y, cap_y, rfl, _, _⟩ := Mem.Own.form o_y10.out
      have z10 : W9.heap.size ≤ W10.heap.size := g10.size
      have B10 : Hid (Below w.heap.size w W10) := belowGro B9.out g10 B9.out.size (Own.low o_e89.out (by have := B9.out.size; omega))
      have r_h10 : Hid (W10.heap[W1.heap.size]? = some (.cells #[.int .i64 h.n, .string h.r] 25 (0, 0))) := rowGro r_h9.out g10 (Own.neRow o_e89.out r_h9.out (by decide))
      have r_x10 : Hid (W10.heap[W7.heap.size]? = some (.cells #[.int .i64 h.n, .string h.r] 25 (0, 0))) := rowGro r_x9.out g10 (Own.neRow o_e89.out r_x9.out (by decide))
      have o_l10 : Hid (Own W10 (w.heap.size) (W1.heap.size) 9 (.slice ao_l l.length cap_l) (ss l)) := Own.gro o_l9.out g10 (Own.neOwn o_e89.out o_l9.out (by decide))
      have o_b10 : Hid (Own W10 (W2.heap.size) (W3.heap.size) 5 (.slice ao_b Pb.length cap_b) (bs Pb)) := Own.gro o_b9.out g10 (Own.neFar o_e89.out o_b9.out (by omega))
      have o_t10 : Hid (Own W10 (W6.heap.size) (W7.heap.size) 9 (.slice ao_t L_t cap_t) (ss l)) := Own.gro o_t9.out g10 (Own.neOwn o_e89.out o_t9.out (by decide))
      have c_h10_0 : W10.cell? ⟨W1.heap.size, 0, none⟩ = some (.int .i64 h.n) := row_at r_h10.out 0
      have c_h10_1 : W10.cell? ⟨W1.heap.size, 1, none⟩ = some (.string h.r) := row_at r_h10.out 1
      have c_x10_0 : W10.cell? ⟨W7.heap.size, 0, none⟩ = some (.int .i64 h.n) := row_at r_x10.out 0
      have c_x10_1 : W10.cell? ⟨W7.heap.size, 1, none⟩ = some (.string h.r) := row_at r_x10.out 1
      clear r_h9 c_h9_0 c_h9_1 r_x9 c_x9_0 c_x9_1 o_l9 o_b9 o_t9 o_e89
      clear g10 sE10 c6_10 c7_10
      obtain rfl : L_y = Pb.length := by obtain ⟨a9, L9, c9, he, h1, h2⟩ := Mem.Own.form o_y10.out; injection he with _ he2 _; rw [bs_len] at h1 h2; omega
      obtain ⟨gy, rfl, hgy1, hgy2, curY, hcurY, _⟩ := Own.blockG o_y10.out (by omega)
      go_wp2_with fail
      refine wp_region_held_drew (S := fun w' => w'.cell? ⟨W1.heap.size, 0, none⟩ = some (.int .i64 h.n) ∧ w'.cell? ⟨W1.heap.size, 1, none⟩ = some (.string h.r)) (by kernel_rfl) ⟨c_h10_0, c_h10_1⟩ (fun hHeld => ?_)
      obtain ⟨W11, HW11, b11⟩ : ∃ X, Hid (W10.drew = X) ∧ Below W10.heap.size W10 X := ⟨_, rfl, Below.drew (Below.refl _ _)⟩
      have HHW11 := HW11.out
      rw [HHW11] at hHeld ⊢
      clear HHW11
      have z11 : W10.heap.size ≤ W11.heap.size := b11.size
      have B11 : Hid (Below w.heap.size w W11) := B10.out.trans (b11.mono B10.out.size)
      have r_h11 : Hid (W11.heap[W1.heap.size]? = some (.cells #[.int .i64 h.n, .string h.r] 25 (0, 0))) := rowKeep r_h10.out b11
      have r_x11 : Hid (W11.heap[W7.heap.size]? = some (.cells #[.int .i64 h.n, .string h.r] 25 (0, 0))) := rowKeep r_x10.out b11
      have o_l11 : Hid (Own W11 (w.heap.size) (W1.heap.size) 9 (.slice ao_l l.length cap_l) (ss l)) := Own.later o_l10.out b11 (by omega)
      have o_b11 : Hid (Own W11 (W2.heap.size) (W3.heap.size) 5 (.slice ao_b Pb.length cap_b) (bs Pb)) := Own.later o_b10.out b11 (by omega)
      have o_t11 : Hid (Own W11 (W6.heap.size) (W7.heap.size) 9 (.slice ao_t L_t cap_t) (ss l)) := Own.later o_t10.out b11 (by omega)
      have o_y11 : Hid (Own W11 (W8.heap.size) (W10.heap.size) 5 (.slice (some ⟨gy, 0, none⟩) Pb.length cap_y) (bs Pb)) := Own.later o_y10.out b11 (by omega)
      have c_h11_0 : W11.cell? ⟨W1.heap.size, 0, none⟩ = some (.int .i64 h.n) := row_at r_h11.out 0
      have c_h11_1 : W11.cell? ⟨W1.heap.size, 1, none⟩ = some (.string h.r) := row_at r_h11.out 1
      have c_x11_0 : W11.cell? ⟨W7.heap.size, 0, none⟩ = some (.int .i64 h.n) := row_at r_x11.out 0
      have c_x11_1 : W11.cell? ⟨W7.heap.size, 1, none⟩ = some (.string h.r) := row_at r_x11.out 1
      clear r_h10 c_h10_0 c_h10_1 r_x10 c_x10_0 c_x10_1 o_l10 o_b10 o_t10 o_y10
      have w1 : IntKind.i64.wrap ((Pb.length : Int) - 1) = (Pb.length : Int) - 1 := by rw [IntKind.wrap_i64]; omega
      (refine wpAnyH_take (i := 0) (v := ?v0x1) rfl (by kernel_rfl) (by kernel_rfl) (by kernel_rfl) (fun _ _ _ h => h) (Or.inl ⟨by rfl, ?hy0x1⟩) (by assumption) ?rest0x1; case hy0x1 => (intro w hSw; (try dsimp only at hSw); go_split_ands; go_simp; (try with_reducible rfl)))
      try simp only [Act.put, List.setIfInBounds_toArray, List.set_cons_zero, List.set_cons_succ, List.getElem_toArray, List.getElem_cons_zero, List.getElem_cons_succ]
      (refine wpAnyH_take (i := 1) (v := ?v1x2) rfl (by kernel_rfl) (by kernel_rfl) (by kernel_rfl) (fun _ _ _ h => h) (Or.inl ⟨by rfl, ?hy1x2⟩) (by assumption) ?rest1x2; case hy1x2 => (intro w hSw; (try dsimp only at hSw); go_split_ands; go_simp; (try with_reducible rfl)))
      try simp only [Act.put, List.setIfInBounds_toArray, List.set_cons_zero, List.set_cons_succ, List.getElem_toArray, List.getElem_cons_zero, List.getElem_cons_succ]
      (refine wpAnyH_take (i := 2) (v := ?v2x3) rfl (by kernel_rfl) (by kernel_rfl) (by kernel_rfl) (fun _ _ _ h => h) (Or.inl ⟨by rfl, ?hy2x3⟩) (by assumption) ?rest2x3; case hy2x3 => (intro w hSw; (try dsimp only at hSw); go_split_ands; go_simp; (try with_reducible rfl)))
      try simp only [Act.put, List.setIfInBounds_toArray, List.set_cons_zero, List.set_cons_succ, List.getElem_toArray, List.getElem_cons_zero, List.getElem_cons_succ]
      (refine wpAnyH_take (i := 3) (v := ?v3x4) rfl (by kernel_rfl) (by kernel_rfl) (by kernel_rfl) (fun _ _ _ h => h) (Or.inl ⟨by rfl, ?hy3x4⟩) (by assumption) ?rest3x4; case hy3x4 => (intro w hSw; (try dsimp only at hSw); go_split_ands; go_simp; (try with_reducible rfl)))
      try simp only [Act.put, List.setIfInBounds_toArray, List.set_cons_zero, List.set_cons_succ, List.getElem_toArray, List.getElem_cons_zero, List.getElem_cons_succ]
      (refine wpAnyH_take (i := 4) (v := ?v4x5) rfl (by kernel_rfl) (by kernel_rfl) (by kernel_rfl) (fun _ _ _ h => h) (Or.inl ⟨by rfl, ?hy4x5⟩) (by assumption) ?rest4x5; case hy4x5 => (intro w hSw; (try dsimp only at hSw); go_split_ands; go_simp; (try with_reducible rfl)))
      try simp only [Act.put, List.setIfInBounds_toArray, List.set_cons_zero, List.set_cons_succ, List.getElem_toArray, List.getElem_cons_zero, List.getElem_cons_succ]
      (refine wpAnyH_take (i := 10) (v := ?v10x6) rfl (by kernel_rfl) (by kernel_rfl) (by kernel_rfl) (fun _ _ _ h => h) (Or.inl ⟨by rfl, ?hy10x6⟩) (by assumption) ?rest10x6; case hy10x6 => (intro w hSw; (try dsimp only at hSw); go_split_ands; go_simp; (try with_reducible rfl)))
      try simp only [Act.put, List.setIfInBounds_toArray, List.set_cons_zero, List.set_cons_succ, List.getElem_toArray, List.getElem_cons_zero, List.getElem_cons_succ]
      refine wpAnyH_ready (rs := [5]) (by kernel_rfl) (by simp) ?_
      refine AllReadyH.cons rfl (fun K hK => ?_) AllReadyH.nil
      go_simp
      refine (qa 2 W11 (by omega) B11.out).mono ?_
      rintro e W_ ⟨m2, ⟨rfl, hm2⟩, hW_⟩
      subst hW_
      refine hK.out _ _ hHeld (fun hHeld => ?_)
      clear hK K
      try simp only [Act.put, List.setIfInBounds_toArray, List.set_cons_zero, List.set_cons_succ, List.getElem_toArray, List.getElem_cons_zero, List.getElem_cons_succ]
      obtain ⟨i, hi4, hti⟩ : ∃ i : Nat, i < 4 ∧ (m2 : Int).tmod 4 = (i : Int) := ⟨m2 % 4, by omega, by rw [Int.tmod_eq_emod_of_nonneg (by omega)]; omega⟩
      obtain ⟨J, hJ⟩ : ∃ J : Nat, Pb.length - 1 - i = J := ⟨_, rfl⟩
      have w2 : IntKind.i64.wrap ((Pb.length : Int) - 1 - (i : Int)) = (J : Int) := by rw [IntKind.wrap_i64]; omega
      have hJ1 : (0 : Int) ≤ (J : Int) := by omega
      have hJ2 : (J : Int) < (Pb.length : Int) := by omega
      have HJ : Hid (Pb.length - 1 - i = J) := hJ
      obtain ⟨c, hc⟩ : ∃ c, Pb[J]? = some c := ⟨Pb[J]'(by omega), by simp⟩
      have hcb := HPY.out c (List.mem_of_getElem? hc)
      have hcell : W11.cell? ⟨gy, J, none⟩ = some (.int .u8 c) := Own.cellAt o_y11.out (by simp [bs, hc])
      have HC : Hid (Pb[J]? = some c) := hc
      clear hJ hc
      (refine wpAnyH_take (i := 6) (v := ?v6x7) rfl (by kernel_rfl) (by kernel_rfl) (by kernel_rfl) (fun _ _ _ h => h) (Or.inl ⟨by rfl, ?hy6x7⟩) (by assumption) ?rest6x7; case hy6x7 => (intro w hSw; (try dsimp only at hSw); go_split_ands; go_simp; (try with_reducible rfl)))
      try simp only [Act.put, List.setIfInBounds_toArray, List.set_cons_zero, List.set_cons_succ, List.getElem_toArray, List.getElem_cons_zero, List.getElem_cons_succ]
      (refine wpAnyH_take (i := 7) (v := ?v7x8) rfl (by kernel_rfl) (by kernel_rfl) (by kernel_rfl) (fun _ _ _ h => h) (Or.inl ⟨by rfl, ?hy7x8⟩) (by assumption) ?rest7x8; case hy7x8 => (intro w hSw; (try dsimp only at hSw); go_split_ands; go_simp; (try with_reducible rfl)))
      try simp only [Act.put, List.setIfInBounds_toArray, List.set_cons_zero, List.set_cons_succ, List.getElem_toArray, List.getElem_cons_zero, List.getElem_cons_succ]
      (refine wpAnyH_take (i := 8) (v := ?v8x9) rfl (by kernel_rfl) (by kernel_rfl) (by kernel_rfl) (fun _ _ _ h => h) (Or.inl ⟨by rfl, ?hy8x9⟩) (by assumption) ?rest8x9; case hy8x9 => (intro w hSw; (try dsimp only at hSw); go_split_ands; go_simp; (try with_reducible rfl)))
      try simp only [Act.put, List.setIfInBounds_toArray, List.set_cons_zero, List.set_cons_succ, List.getElem_toArray, List.getElem_cons_zero, List.getElem_cons_succ]
      refine wpAnyH_ready (rs := [9, 11]) (by kernel_rfl) (by simp) ?_
      refine AllReadyH.cons rfl (fun K hK => ?_) (AllReadyH.cons rfl (fun K hK => ?_) AllReadyH.nil)
      · go_simp
        refine hK.out _ _ ⟨hHeld.1, hHeld.2⟩ (fun hHeld => ?_)
        clear hK K
        try simp only [Act.put, List.setIfInBounds_toArray, List.set_cons_zero, List.set_cons_succ, List.getElem_toArray, List.getElem_cons_zero, List.getElem_cons_succ]
        refine wpAnyH_ready (rs := [11]) (by kernel_rfl) (by simp) ?_
        refine AllReadyH.cons rfl (fun K hK => ?_) AllReadyH.nil
        go_simp
        refine (qa 3 W11 (by omega) B11.out).mono ?_
        rintro e W_ ⟨m3, ⟨rfl, hm3⟩, hW_⟩
        subst hW_
        refine hK.out _ _ hHeld (fun hHeld => ?_)
        clear hK K
        try simp only [Act.put, List.setIfInBounds_toArray, List.set_cons_zero, List.set_cons_succ, List.getElem_toArray, List.getElem_cons_zero, List.getElem_cons_succ]
        obtain ⟨k, hk8, htk⟩ : ∃ k : Nat, k < 8 ∧ (m3 : Int).tmod 8 = (k : Int) := ⟨m3 % 8, by omega, by rw [Int.tmod_eq_emod_of_nonneg (by omega)]; omega⟩
        have w3 : IntKind.u64.wrap (k : Int) = (k : Int) := by rw [IntKind.wrap_u64]; omega
        have hk0 : (0 : Int) ≤ (k : Int) := by omega
        have hk9 : (k : Int) ≤ 8 := by omega
        have hmin : min k 8 = k := by omega
        obtain ⟨Y, hY⟩ : ∃ Y : Int, (2 : Int) ^ k = Y := ⟨_, rfl⟩
        have hYw : IntKind.u8.wrap ((2 : Int) ^ k) = Y := by rw [pow8 hk8, hY]
        obtain ⟨Z, hZ⟩ : ∃ Z : Int, bits .xor .u8 c Y = Z := ⟨_, rfl⟩
        have hZ2 : Z ≠ c ∧ 0 ≤ Z ∧ Z ≤ 255 := by
          have h9 := turn_byte ⟨c.toNat, by omega⟩ ⟨k, hk8⟩
          have hc9 : ((c.toNat : Nat) : Int) = c := by omega
          simp only [hc9, hY, hZ] at h9
          exact h9
        clear hY
        (refine wpAnyH_take (i := 12) (v := ?v12x10) rfl (by kernel_rfl) (by kernel_rfl) (by kernel_rfl) (fun _ _ _ h => h) (Or.inl ⟨by rfl, ?hy12x10⟩) (by assumption) ?rest12x10; case hy12x10 => (intro w hSw; (try dsimp only at hSw); go_split_ands; go_simp; (try with_reducible rfl)))
        try simp only [Act.put, List.setIfInBounds_toArray, List.set_cons_zero, List.set_cons_succ, List.getElem_toArray, List.getElem_cons_zero, List.getElem_cons_succ]
        (refine wpAnyH_take (i := 13) (v := ?v13x11) rfl (by kernel_rfl) (by kernel_rfl) (by kernel_rfl) (fun _ _ _ h => h) (Or.inl ⟨by rfl, ?hy13x11⟩) (by assumption) ?rest13x11; case hy13x11 => (intro w hSw; (try dsimp only at hSw); go_split_ands; go_simp; (try with_reducible rfl)))
        try simp only [Act.put, List.setIfInBounds_toArray, List.set_cons_zero, List.set_cons_succ, List.getElem_toArray, List.getElem_cons_zero, List.getElem_cons_succ]
        (refine wpAnyH_take (i := 14) (v := ?v14x12) rfl (by kernel_rfl) (by kernel_rfl) (by kernel_rfl) (fun _ _ _ h => h) (Or.inl ⟨by rfl, ?hy14x12⟩) (by assumption) ?rest14x12; case hy14x12 => (intro w hSw; (try dsimp only at hSw); go_split_ands; go_simp; (try with_reducible rfl)))
        try simp only [Act.put, List.setIfInBounds_toArray, List.set_cons_zero, List.set_cons_succ, List.getElem_toArray, List.getElem_cons_zero, List.getElem_cons_succ]
        (refine wpAnyH_take (i := 15) (v := ?v15x13) rfl (by kernel_rfl) (by kernel_rfl) (by kernel_rfl) (fun _ _ _ h => h) (Or.inl ⟨by rfl, ?hy15x13⟩) (by assumption) ?rest15x13; case hy15x13 => (intro w hSw; (try dsimp only at hSw); go_split_ands; go_simp; (try with_reducible rfl)))
        try simp only [Act.put, List.setIfInBounds_toArray, List.set_cons_zero, List.set_cons_succ, List.getElem_toArray, List.getElem_cons_zero, List.getElem_cons_succ]
        (refine wpAnyH_take (i := 16) (v := ?v16x14) rfl (by kernel_rfl) (by kernel_rfl) (by kernel_rfl) (fun _ _ _ h => h) (Or.inl ⟨by rfl, ?hy16x14⟩) (by assumption) ?rest16x14; case hy16x14 => (intro w hSw; (try dsimp only at hSw); go_split_ands; go_simp; (try with_reducible rfl)))
        try simp only [Act.put, List.setIfInBounds_toArray, List.set_cons_zero, List.set_cons_succ, List.getElem_toArray, List.getElem_cons_zero, List.getElem_cons_succ]
        refine wpAnyH_ready (rs := [17]) (by kernel_rfl) (by simp) ?_
        refine AllReadyH.cons rfl (fun K hK => ?_) AllReadyH.nil
        have HZ : Hid (Z ≠ c ∧ 0 ≤ Z ∧ Z ≤ 255) := hZ2
        rw [if_pos (by rfl)]
        refine wp_elemG 5 _ _ rfl (k := J) o_y11.out (by rw [bs_len]; omega) (.int .u8 Z) rfl rfl (by kernel_rfl) rfl ?_
        intro W12 o_y12 g12
        refine hK.out _ _ ⟨(cellGro hHeld.1 g12 (Own.neRow o_y11.out r_h11.out (by decide))), (cellGro hHeld.2 g12 (Own.neRow o_y11.out r_h11.out (by decide)))⟩ (fun hHeld => ?_)
        clear hK K
        try simp only [Act.put, List.setIfInBounds_toArray, List.set_cons_zero, List.set_cons_succ, List.getElem_toArray, List.getElem_cons_zero, List.getElem_cons_succ]
        have o_y12 : Own W12 (W8.heap.size) (W10.heap.size) 5 (.slice (some ⟨gy, 0, none⟩) Pb.length cap_y) (bs (Pb.set J Z)) := by rw [show bs (Pb.set J Z) = (bs Pb).set J (.int .u8 Z) by simp [bs, List.map_set]]; exact o_y12
        have o_y12 : Hid (Own W12 (W8.heap.size) (W10.heap.size) 5 (.slice (some ⟨gy, 0, none⟩) Pb.length cap_y) (bs (Pb.set J Z))) := o_y12
        have z12 : W11.heap.size ≤ W12.heap.size := g12.size
        have B12 : Hid (Below w.heap.size w W12) := belowGro B11.out g12 B11.out.size (Own.low o_y11.out (by have := B11.out.size; omega))
        have r_h12 : Hid (W12.heap[W1.heap.size]? = some (.cells #[.int .i64 h.n, .string h.r] 25 (0, 0))) := rowGro r_h11.out g12 (Own.neRow o_y11.out r_h11.out (by decide))
        have r_x12 : Hid (W12.heap[W7.heap.size]? = some (.cells #[.int .i64 h.n, .string h.r] 25 (0, 0))) := rowGro r_x11.out g12 (Own.neRow o_y11.out r_x11.out (by decide))
        have o_l12 : Hid (Own W12 (w.heap.size) (W1.heap.size) 9 (.slice ao_l l.length cap_l) (ss l)) := Own.gro o_l11.out g12 (Own.neOwn o_y11.out o_l11.out (by decide))
        have o_b12 : Hid (Own W12 (W2.heap.size) (W3.heap.size) 5 (.slice ao_b Pb.length cap_b) (bs Pb)) := Own.gro o_b11.out g12 (Own.neFar o_y11.out o_b11.out (by omega))
        have o_t12 : Hid (Own W12 (W6.heap.size) (W7.heap.size) 9 (.slice ao_t L_t cap_t) (ss l)) := Own.gro o_t11.out g12 (Own.neOwn o_y11.out o_t11.out (by decide))
        have c_h12_0 : W12.cell? ⟨W1.heap.size, 0, none⟩ = some (.int .i64 h.n) := row_at r_h12.out 0
        have c_h12_1 : W12.cell? ⟨W1.heap.size, 1, none⟩ = some (.string h.r) := row_at r_h12.out 1
        have c_x12_0 : W12.cell? ⟨W7.heap.size, 0, none⟩ = some (.int .i64 h.n) := row_at r_x12.out 0
        have c_x12_1 : W12.cell? ⟨W7.heap.size, 1, none⟩ = some (.string h.r) := row_at r_x12.out 1
        clear r_h11 c_h11_0 c_h11_1 r_x11 c_x11_0 c_x11_1 o_l11 o_b11 o_t11 o_y11
        clear g12
        refine wpAnyH_done (by kernel_rfl) ?_ _
        clear hHeld
        clear hcell hZ hZ2
        have e2 : getC (Pb.set J Z) 0 = no12 0 := by
          have g := get_turned (h := h) (x := l) HA.out (by omega) (by omega) (by omega) hi4 (y := Z) (by rw [← HE0.out, HJ.out, HC.out]; intro h9; injection h9 with h9; exact HZ.out.1 h9.symm)
          rw [← HE0.out, HJ.out] at g
          exact g
        have q4 : ∀ W v1, Below w.heap.size w W → Sl W v1 (bs (Pb.set J Z)) → _ := fun W v1 hW h1 => iGet W hW v1 (Pb.set J Z) 0 h1 (fun y hy => by rcases List.mem_or_eq_of_mem_set hy with h9 | h9; exact HPY.out y h9; rw [h9]; exact HZ.out.2) (by rw [List.length_set]; omega) (by omega) (by omega)
        simp only [GotC, e2, no12, hd0] at q4
        clear e2
        go_wp2_with fail
        refine (q4 W12 _ B12.out o_y12.out.sl).mono ?_
        rintro e W13 ⟨v_u, rfl, o_u13, b13⟩
        obtain ⟨ao_u, L_u, cap_u, rfl, hL_u, hM_u⟩ := o_u13.form
        have o_u13 : Hid (Own W13 W12.heap.size W13.heap.size 9 (.slice ao_u L_u cap_u) (ss [])) := o_u13
        clear hL_u hM_u
        have z13 : W12.heap.size ≤ W13.heap.size := b13.size
        have B13 : Hid (Below w.heap.size w W13) := B12.out.trans (b13.mono B12.out.size)
        have r_h13 : Hid (W13.heap[W1.heap.size]? = some (.cells #[.int .i64 h.n, .string h.r] 25 (0, 0))) := rowKeep r_h12.out b13
        have r_x13 : Hid (W13.heap[W7.heap.size]? = some (.cells #[.int .i64 h.n, .string h.r] 25 (0, 0))) := rowKeep r_x12.out b13
        have o_l13 : Hid (Own W13 (w.heap.size) (W1.heap.size) 9 (.slice ao_l l.length cap_l) (ss l)) := Own.later o_l12.out b13 (by omega)
        have o_b13 : Hid (Own W13 (W2.heap.size) (W3.heap.size) 5 (.slice ao_b Pb.length cap_b) (bs Pb)) := Own.later o_b12.out b13 (by omega)
        have o_t13 : Hid (Own W13 (W6.heap.size) (W7.heap.size) 9 (.slice ao_t L_t cap_t) (ss l)) := Own.later o_t12.out b13 (by omega)
        have o_y13 : Hid (Own W13 (W8.heap.size) (W10.heap.size) 5 (.slice (some ⟨gy, 0, none⟩) Pb.length cap_y) (bs (Pb.set J Z))) := Own.later o_y12.out b13 (by omega)
        have c_h13_0 : W13.cell? ⟨W1.heap.size, 0, none⟩ = some (.int .i64 h.n) := row_at r_h13.out 0
        have c_h13_1 : W13.cell? ⟨W1.heap.size, 1, none⟩ = some (.string h.r) := row_at r_h13.out 1
        have c_x13_0 : W13.cell? ⟨W7.heap.size, 0, none⟩ = some (.int .i64 h.n) := row_at r_x13.out 0
        have c_x13_1 : W13.cell? ⟨W7.heap.size, 1, none⟩ = some (.string h.r) := row_at r_x13.out 1
        clear r_h12 c_h12_0 c_h12_1 r_x12 c_x12_0 c_x12_1 o_l12 o_b12 o_t12 o_y12
        clear o_u13
        clear o_y13
        have a_h13_0 : ∀ o, (W13.alloc o).cell? ⟨W1.heap.size, 0, none⟩ = some (.int .i64 h.n) := fun o => keepR c_h13_0 ((Below.refl _ _).alloc (Nat.le_refl _) o)
        have a_h13_1 : ∀ o, (W13.alloc o).cell? ⟨W1.heap.size, 1, none⟩ = some (.string h.r) := fun o => keepR c_h13_1 ((Below.refl _ _).alloc (Nat.le_refl _) o)
        have a_x13_0 : ∀ o, (W13.alloc o).cell? ⟨W7.heap.size, 0, none⟩ = some (.int .i64 h.n) := fun o => keepR c_x13_0 ((Below.refl _ _).alloc (Nat.le_refl _) o)
        have a_x13_1 : ∀ o, (W13.alloc o).cell? ⟨W7.heap.size, 1, none⟩ = some (.string h.r) := fun o => keepR c_x13_1 ((Below.refl _ _).alloc (Nat.le_refl _) o)
        obtain ⟨W14, HW14, b14, y14, hS14, r_x214⟩ : ∃ X, Hid ((W13.alloc (.cells #[.int .i64 0, .string ⟨#[]⟩] 25)) = X) ∧ Below W13.heap.size W13 X ∧ W13.heap.size + 1 ≤ X.heap.size ∧ Hid (X.heap.size = W13.heap.size + 1) ∧ Hid (X.heap[W13.heap.size]? = some (.cells #[.int .i64 0, .string ⟨#[]⟩] 25 (0, 0))) := ⟨_, rfl, ((Below.refl _ _).alloc (Nat.le_refl _) _), by simp, by show _ = _; simp, (by show _ = _; exact alloc_nth1_0 W13 _)⟩
        have z14 : W13.heap.size ≤ W14.heap.size := b14.size
        have B14 : Hid (Below w.heap.size w W14) := B13.out.trans (b14.mono B13.out.size)
        have r_h14 : Hid (W14.heap[W1.heap.size]? = some (.cells #[.int .i64 h.n, .string h.r] 25 (0, 0))) := rowKeep r_h13.out b14
        have r_x14 : Hid (W14.heap[W7.heap.size]? = some (.cells #[.int .i64 h.n, .string h.r] 25 (0, 0))) := rowKeep r_x13.out b14
        have o_l14 : Hid (Own W14 (w.heap.size) (W1.heap.size) 9 (.slice ao_l l.length cap_l) (ss l)) := Own.later o_l13.out b14 (by omega)
        have o_b14 : Hid (Own W14 (W2.heap.size) (W3.heap.size) 5 (.slice ao_b Pb.length cap_b) (bs Pb)) := Own.later o_b13.out b14 (by omega)
        have o_t14 : Hid (Own W14 (W6.heap.size) (W7.heap.size) 9 (.slice ao_t L_t cap_t) (ss l)) := Own.later o_t13.out b14 (by omega)
        have c_h14_0 : W14.cell? ⟨W1.heap.size, 0, none⟩ = some (.int .i64 h.n) := row_at r_h14.out 0
        have c_h14_1 : W14.cell? ⟨W1.heap.size, 1, none⟩ = some (.string h.r) := row_at r_h14.out 1
        have c_x14_0 : W14.cell? ⟨W7.heap.size, 0, none⟩ = some (.int .i64 h.n) := row_at r_x14.out 0
        have c_x14_1 : W14.cell? ⟨W7.heap.size, 1, none⟩ = some (.string h.r) := row_at r_x14.out 1
        have c_x214_0 : W14.cell? ⟨W13.heap.size, 0, none⟩ = some (.int .i64 0) := row_at r_x214.out 0
        have c_x214_1 : W14.cell? ⟨W13.heap.size, 1, none⟩ = some (.string ⟨#[]⟩) := row_at r_x214.out 1
        clear r_h13 c_h13_0 c_h13_1 r_x13 c_x13_0 c_x13_1 o_l13 o_b13 o_t13
        go_wp2_with fail
        rw [HW14.out]
        clear a_h13_0 a_h13_1 a_x13_0 a_x13_1
        refine (qa 4 W14 (by omega) B14.out).mono ?_
        rintro e W_ ⟨m4, ⟨rfl, hm4⟩, hW_⟩
        subst hW_
        obtain ⟨Q, hQ, hQ1, hQ2⟩ : ∃ Q : Nat, Q < Pb.length ∧ (m4 : Int) % (Pb.length : Int) = (Q : Int) ∧ (m4 : Int).tmod (Pb.length : Int) = (Q : Int) := ⟨m4 % Pb.length, Nat.mod_lt _ (by omega), by omega, by rw [Int.tmod_eq_emod_of_nonneg (by omega)]; omega⟩
        have hP0 : ¬ (Pb.length : Int) = 0 := by omega
        have hQ3 : (Q : Int) ≤ (cap_b : Int) := by
          obtain ⟨a9, c9, he, h1, _⟩ := o_b14.out.sl
          injection he with _ he2 he3
          rw [bs_len] at h1
          omega
        have e3 : getC (Pb.take Q) 0 = no12 0 := by
          have g := get_cut (h := h) (x := l) HA.out (by omega) (by omega) (by omega) (k := Q) (by rw [← HE0.out]; exact hQ)
          rw [← HE0.out] at g
          exact getC_no g
        have q5 : ∀ W v1, Below w.heap.size w W → Sl W v1 (bs (Pb.take Q)) → _ := fun W v1 hW h1 => iGet W hW v1 (Pb.take Q) 0 h1 (fun y hy => HPY.out y (List.mem_of_mem_take hy)) (by rw [List.length_take]; omega) (by omega) (by omega)
        simp only [GotC, e3, no12, hd0] at q5
        clear e3
        have hF : Hid (Sl W14 (.slice ao_b Q cap_b) (bs (Pb.take Q))) := by
          show Sl _ _ _
          have h9 := Sl.front o_b14.out.sl Q (by rw [bs_len]; omega)
          have e9 : bs (Pb.take Q) = (bs Pb).take Q := by { unfold bs; rw [List.map_take] }
          rw [e9]
          exact h9
        go_wp2_with fail
        refine (q5 W14 _ B14.out hF.out).mono ?_
        rintro e W15 ⟨v_z, rfl, o_z15, b15⟩
        obtain ⟨ao_z, L_z, cap_z, rfl, hL_z, hM_z⟩ := o_z15.form
        have o_z15 : Hid (Own W15 W14.heap.size W15.heap.size 9 (.slice ao_z L_z cap_z) (ss [])) := o_z15
        clear hL_z hM_z
        have z15 : W14.heap.size ≤ W15.heap.size := b15.size
        have B15 : Hid (Below w.heap.size w W15) := B14.out.trans (b15.mono B14.out.size)
        have r_h15 : Hid (W15.heap[W1.heap.size]? = some (.cells #[.int .i64 h.n, .string h.r] 25 (0, 0))) := rowKeep r_h14.out b15
        have r_x15 : Hid (W15.heap[W7.heap.size]? = some (.cells #[.int .i64 h.n, .string h.r] 25 (0, 0))) := rowKeep r_x14.out b15
        have r_x215 : Hid (W15.heap[W13.heap.size]? = some (.cells #[.int .i64 0, .string ⟨#[]⟩] 25 (0, 0))) := rowKeep r_x214.out b15
        have o_l15 : Hid (Own W15 (w.heap.size) (W1.heap.size) 9 (.slice ao_l l.length cap_l) (ss l)) := Own.later o_l14.out b15 (by omega)
        have o_b15 : Hid (Own W15 (W2.heap.size) (W3.heap.size) 5 (.slice ao_b Pb.length cap_b) (bs Pb)) := Own.later o_b14.out b15 (by omega)
        have o_t15 : Hid (Own W15 (W6.heap.size) (W7.heap.size) 9 (.slice ao_t L_t cap_t) (ss l)) := Own.later o_t14.out b15 (by omega)
        have c_h15_0 : W15.cell? ⟨W1.heap.size, 0, none⟩ = some (.int .i64 h.n) := row_at r_h15.out 0
        have c_h15_1 : W15.cell? ⟨W1.heap.size, 1, none⟩ = some (.string h.r) := row_at r_h15.out 1
        have c_x15_0 : W15.cell? ⟨W7.heap.size, 0, none⟩ = some (.int .i64 h.n) := row_at r_x15.out 0
        have c_x15_1 : W15.cell? ⟨W7.heap.size, 1, none⟩ = some (.string h.r) := row_at r_x15.out 1
        have c_x215_0 : W15.cell? ⟨W13.heap.size, 0, none⟩ = some (.int .i64 0) := row_at r_x215.out 0
        have c_x215_1 : W15.cell? ⟨W13.heap.size, 1, none⟩ = some (.string ⟨#[]⟩) := row_at r_x215.out 1
        clear r_h14 c_h14_0 c_h14_1 r_x14 c_x14_0 c_x14_1 r_x214 c_x214_0 c_x214_1 o_l14 o_b14 o_t14
        clear o_z15
        clear hF
        have a_h15_0 : ∀ o, (W15.alloc o).cell? ⟨W1.heap.size, 0, none⟩ = some (.int .i64 h.n) := fun o => keepR c_h15_0 ((Below.refl _ _).alloc (Nat.le_refl _) o)
        have a_h15_1 : ∀ o, (W15.alloc o).cell? ⟨W1.heap.size, 1, none⟩ = some (.string h.r) := fun o => keepR c_h15_1 ((Below.refl _ _).alloc (Nat.le_refl _) o)
        have a_x15_0 : ∀ o, (W15.alloc o).cell? ⟨W7.heap.size, 0, none⟩ = some (.int .i64 h.n) := fun o => keepR c_x15_0 ((Below.refl _ _).alloc (Nat.le_refl _) o)
        have a_x15_1 : ∀ o, (W15.alloc o).cell? ⟨W7.heap.size, 1, none⟩ = some (.string h.r) := fun o => keepR c_x15_1 ((Below.refl _ _).alloc (Nat.le_refl _) o)
        have a_x215_0 : ∀ o, (W15.alloc o).cell? ⟨W13.heap.size, 0, none⟩ = some (.int .i64 0) := fun o => keepR c_x215_0 ((Below.refl _ _).alloc (Nat.le_refl _) o)
        have a_x215_1 : ∀ o, (W15.alloc o).cell? ⟨W13.heap.size, 1, none⟩ = some (.string ⟨#[]⟩) := fun o => keepR c_x215_1 ((Below.refl _ _).alloc (Nat.le_refl _) o)
        obtain ⟨W16, HW16, b16, y16, hS16, r_x316⟩ : ∃ X, Hid ((W15.alloc (.cells #[.int .i64 0, .string ⟨#[]⟩] 25)) = X) ∧ Below W15.heap.size W15 X ∧ W15.heap.size + 1 ≤ X.heap.size ∧ Hid (X.heap.size = W15.heap.size + 1) ∧ Hid (X.heap[W15.heap.size]? = some (.cells #[.int .i64 0, .string ⟨#[]⟩] 25 (0, 0))) := ⟨_, rfl, ((Below.refl _ _).alloc (Nat.le_refl _) _), by simp, by show _ = _; simp, (by show _ = _; exact alloc_nth1_0 W15 _)⟩
        have z16 : W15.heap.size ≤ W16.heap.size := b16.size
        have B16 : Hid (Below w.heap.size w W16) := B15.out.trans (b16.mono B15.out.size)
        have r_h16 : Hid (W16.heap[W1.heap.size]? = some (.cells #[.int .i64 h.n, .string h.r] 25 (0, 0))) := rowKeep r_h15.out b16
        have r_x16 : Hid (W16.heap[W7.heap.size]? = some (.cells #[.int .i64 h.n, .string h.r] 25 (0, 0))) := rowKeep r_x15.out b16
        have r_x216 : Hid (W16.heap[W13.heap.size]? = some (.cells #[.int .i64 0, .string ⟨#[]⟩] 25 (0, 0))) := rowKeep r_x215.out b16
        have o_l16 : Hid (Own W16 (w.heap.size) (W1.heap.size) 9 (.slice ao_l l.length cap_l) (ss l)) := Own.later o_l15.out b16 (by omega)
        have o_b16 : Hid (Own W16 (W2.heap.size) (W3.heap.size) 5 (.slice ao_b Pb.length cap_b) (bs Pb)) := Own.later o_b15.out b16 (by omega)
        have o_t16 : Hid (Own W16 (W6.heap.size) (W7.heap.size) 9 (.slice ao_t L_t cap_t) (ss l)) := Own.later o_t15.out b16 (by omega)
        have c_h16_0 : W16.cell? ⟨W1.heap.size, 0, none⟩ = some (.int .i64 h.n) := row_at r_h16.out 0
        have c_h16_1 : W16.cell? ⟨W1.heap.size, 1, none⟩ = some (.string h.r) := row_at r_h16.out 1
        have c_x16_0 : W16.cell? ⟨W7.heap.size, 0, none⟩ = some (.int .i64 h.n) := row_at r_x16.out 0
        have c_x16_1 : W16.cell? ⟨W7.heap.size, 1, none⟩ = some (.string h.r) := row_at r_x16.out 1
        have c_x216_0 : W16.cell? ⟨W13.heap.size, 0, none⟩ = some (.int .i64 0) := row_at r_x216.out 0
        have c_x216_1 : W16.cell? ⟨W13.heap.size, 1, none⟩ = some (.string ⟨#[]⟩) := row_at r_x216.out 1
        have c_x316_0 : W16.cell? ⟨W15.heap.size, 0, none⟩ = some (.int .i64 0) := row_at r_x316.out 0
        have c_x316_1 : W16.cell? ⟨W15.heap.size, 1, none⟩ = some (.string ⟨#[]⟩) := row_at r_x316.out 1
        clear r_h15 c_h15_0 c_h15_1 r_x15 c_x15_0 c_x15_1 r_x215 c_x215_0 c_x215_1 o_l15 o_b15 o_t15
        have ee : ∀ W, _ := fun W => eqlH W h h
        have hhh : eqH h h = true := (eqH_iff _ _).2 rfl
        simp only [hhh] at ee
        have gg : ∀ W op y z xs ys, _ := fun W op y z xs ys => grdH W op y z xs ys
        have w9 : IntKind.i64.wrap ((Pb.length : Int) + 1) = (Pb.length : Int) + 1 := by rw [IntKind.wrap_i64]; omega
        go_wp2_with fail
        rw [HW16.out]
        clear a_h15_0 a_h15_1 a_x15_0 a_x15_1 a_x215_0 a_x215_1
        refine (Draw.same_true W16 _ _ l o_t16.out.sl o_l16.out.sl (by omega)).mono ?_
        rintro e W17 ⟨rfl, h17, _⟩
        have b17 : Below W16.heap.size W16 W17 := h17 _
        clear h17
        have z17 : W16.heap.size ≤ W17.heap.size := b17.size
        have B17 : Hid (Below w.heap.size w W17) := B16.out.trans (b17.mono B16.out.size)
        have r_h17 : Hid (W17.heap[W1.heap.size]? = some (.cells #[.int .i64 h.n, .string h.r] 25 (0, 0))) := rowKeep r_h16.out b17
        have r_x17 : Hid (W17.heap[W7.heap.size]? = some (.cells #[.int .i64 h.n, .string h.r] 25 (0, 0))) := rowKeep r_x16.out b17
        have r_x217 : Hid (W17.heap[W13.heap.size]? = some (.cells #[.int .i64 0, .string ⟨#[]⟩] 25 (0, 0))) := rowKeep r_x216.out b17
        have r_x317 : Hid (W17.heap[W15.heap.size]? = some (.cells #[.int .i64 0, .string ⟨#[]⟩] 25 (0, 0))) := rowKeep r_x316.out b17
        have o_l17 : Hid (Own W17 (w.heap.size) (W1.heap.size) 9 (.slice ao_l l.length cap_l) (ss l)) := Own.later o_l16.out b17 (by omega)
        have o_b17 : Hid (Own W17 (W2.heap.size) (W3.heap.size) 5 (.slice ao_b Pb.length cap_b) (bs Pb)) := Own.later o_b16.out b17 (by omega)
        have o_t17 : Hid (Own W17 (W6.heap.size) (W7.heap.size) 9 (.slice ao_t L_t cap_t) (ss l)) := Own.later o_t16.out b17 (by omega)
        have c_h17_0 : W17.cell? ⟨W1.heap.size, 0, none⟩ = some (.int .i64 h.n) := row_at r_h17.out 0
        have c_h17_1 : W17.cell? ⟨W1.heap.size, 1, none⟩ = some (.string h.r) := row_at r_h17.out 1
        have c_x17_0 : W17.cell? ⟨W7.heap.size, 0, none⟩ = some (.int .i64 h.n) := row_at r_x17.out 0
        have c_x17_1 : W17.cell? ⟨W7.heap.size, 1, none⟩ = some (.string h.r) := row_at r_x17.out 1
        have c_x217_0 : W17.cell? ⟨W13.heap.size, 0, none⟩ = some (.int .i64 0) := row_at r_x217.out 0
        have c_x217_1 : W17.cell? ⟨W13.heap.size, 1, none⟩ = some (.string ⟨#[]⟩) := row_at r_x217.out 1
        have c_x317_0 : W17.cell? ⟨W15.heap.size, 0, none⟩ = some (.int .i64 0) := row_at r_x317.out 0
        have c_x317_1 : W17.cell? ⟨W15.heap.size, 1, none⟩ = some (.string ⟨#[]⟩) := row_at r_x317.out 1
        clear r_h16 c_h16_0 c_h16_1 r_x16 c_x16_0 c_x16_1 r_x216 c_x216_0 c_x216_1 r_x316 c_x316_0 c_x316_1 o_l16 o_b16 o_t16
        go_wp2
        go_ret
        exact ⟨rfl, B17.out⟩
      · go_simp
        refine (qa 3 W11 (by omega) B11.out).mono ?_
        rintro e W_ ⟨m3, ⟨rfl, hm3⟩, hW_⟩
        subst hW_
        refine hK.out _ _ hHeld (fun hHeld => ?_)
        clear hK K
        try simp only [Act.put, List.setIfInBounds_toArray, List.set_cons_zero, List.set_cons_succ, List.getElem_toArray, List.getElem_cons_zero, List.getElem_cons_succ]
        obtain ⟨k, hk8, htk⟩ : ∃ k : Nat, k < 8 ∧ (m3 : Int).tmod 8 = (k : Int) := ⟨m3 % 8, by omega, by rw [Int.tmod_eq_emod_of_nonneg (by omega)]; omega⟩
        have w3 : IntKind.u64.wrap (k : Int) = (k : Int) := by rw [IntKind.wrap_u64]; omega
        have hk0 : (0 : Int) ≤ (k : Int) := by omega
        have hk9 : (k : Int) ≤ 8 := by omega
        have hmin : min k 8 = k := by omega
        obtain ⟨Y, hY⟩ : ∃ Y : Int, (2 : Int) ^ k = Y := ⟨_, rfl⟩
        have hYw : IntKind.u8.wrap ((2 : Int) ^ k) = Y := by rw [pow8 hk8, hY]
        obtain ⟨Z, hZ⟩ : ∃ Z : Int, bits .xor .u8 c Y = Z := ⟨_, rfl⟩
        have hZ2 : Z ≠ c ∧ 0 ≤ Z ∧ Z ≤ 255 := by
          have h9 := turn_byte ⟨c.toNat, by omega⟩ ⟨k, hk8⟩
          have hc9 : ((c.toNat : Nat) : Int) = c := by omega
          simp only [hc9, hY, hZ] at h9
          exact h9
        clear hY
        (refine wpAnyH_take (i := 12) (v := ?v12x15) rfl (by kernel_rfl) (by kernel_rfl) (by kernel_rfl) (fun _ _ _ h => h) (Or.inl ⟨by rfl, ?hy12x15⟩) (by assumption) ?rest12x15; case hy12x15 => (intro w hSw; (try dsimp only at hSw); go_split_ands; go_simp; (try with_reducible rfl)))
        try simp only [Act.put, List.setIfInBounds_toArray, List.set_cons_zero, List.set_cons_succ, List.getElem_toArray, List.getElem_cons_zero, List.getElem_cons_succ]
        (refine wpAnyH_take (i := 13) (v := ?v13x16) rfl (by kernel_rfl) (by kernel_rfl) (by kernel_rfl) (fun _ _ _ h => h) (Or.inl ⟨by rfl, ?hy13x16⟩) (by assumption) ?rest13x16; case hy13x16 => (intro w hSw; (try dsimp only at hSw); go_split_ands; go_simp; (try with_reducible rfl)))
        try simp only [Act.put, List.setIfInBounds_toArray, List.set_cons_zero, List.set_cons_succ, List.getElem_toArray, List.getElem_cons_zero, List.getElem_cons_succ]
        (refine wpAnyH_take (i := 14) (v := ?v14x17) rfl (by kernel_rfl) (by kernel_rfl) (by kernel_rfl) (fun _ _ _ h => h) (Or.inl ⟨by rfl, ?hy14x17⟩) (by assumption) ?rest14x17; case hy14x17 => (intro w hSw; (try dsimp only at hSw); go_split_ands; go_simp; (try with_reducible rfl)))
        try simp only [Act.put, List.setIfInBounds_toArray, List.set_cons_zero, List.set_cons_succ, List.getElem_toArray, List.getElem_cons_zero, List.getElem_cons_succ]
        refine wpAnyH_ready (rs := [9]) (by kernel_rfl) (by simp) ?_
        refine AllReadyH.cons rfl (fun K hK => ?_) AllReadyH.nil
        go_simp
        refine hK.out _ _ ⟨hHeld.1, hHeld.2⟩ (fun hHeld => ?_)
        clear hK K
        try simp only [Act.put, List.setIfInBounds_toArray, List.set_cons_zero, List.set_cons_succ, List.getElem_toArray, List.getElem_cons_zero, List.getElem_cons_succ]
        (refine wpAnyH_take (i := 15) (v := ?v15x18) rfl (by kernel_rfl) (by kernel_rfl) (by kernel_rfl) (fun _ _ _ h => h) (Or.inl ⟨by rfl, ?hy15x18⟩) (by assumption) ?rest15x18; case hy15x18 => (intro w hSw; (try dsimp only at hSw); go_split_ands; go_simp; (try with_reducible rfl)))
        try simp only [Act.put, List.setIfInBounds_toArray, List.set_cons_zero, List.set_cons_succ, List.getElem_toArray, List.getElem_cons_zero, List.getElem_cons_succ]
        (refine wpAnyH_take (i := 16) (v := ?v16x19) rfl (by kernel_rfl) (by kernel_rfl) (by kernel_rfl) (fun _ _ _ h => h) (Or.inl ⟨by rfl, ?hy16x19⟩) (by assumption) ?rest16x19; case hy16x19 => (intro w hSw; (try dsimp only at hSw); go_split_ands; go_simp; (try with_reducible rfl)))
        try simp only [Act.put, List.setIfInBounds_toArray, List.set_cons_zero, List.set_cons_succ, List.getElem_toArray, List.getElem_cons_zero, List.getElem_cons_succ]
        refine wpAnyH_ready (rs := [17]) (by kernel_rfl) (by simp) ?_
        refine AllReadyH.cons rfl (fun K hK => ?_) AllReadyH.nil
        have HZ : Hid (Z ≠ c ∧ 0 ≤ Z ∧ Z ≤ 255) := hZ2
        rw [if_pos (by rfl)]
        refine wp_elemG 5 _ _ rfl (k := J) o_y11.out (by rw [bs_len]; omega) (.int .u8 Z) rfl rfl (by kernel_rfl) rfl ?_
        intro W12 o_y12 g12
        refine hK.out _ _ ⟨(cellGro hHeld.1 g12 (Own.neRow o_y11.out r_h11.out (by decide))), (cellGro hHeld.2 g12 (Own.neRow o_y11.out r_h11.out (by decide)))⟩ (fun hHeld => ?_)
        clear hK K
        try simp only [Act.put, List.setIfInBounds_toArray, List.set_cons_zero, List.set_cons_succ, List.getElem_toArray, List.getElem_cons_zero, List.getElem_cons_succ]
        have o_y12 : Own W12 (W8.heap.size) (W10.heap.size) 5 (.slice (some ⟨gy, 0, none⟩) Pb.length cap_y) (bs (Pb.set J Z)) := by rw [show bs (Pb.set J Z) = (bs Pb).set J (.int .u8 Z) by simp [bs, List.map_set]]; exact o_y12
        have o_y12 : Hid (Own W12 (W8.heap.size) (W10.heap.size) 5 (.slice (some ⟨gy, 0, none⟩) Pb.length cap_y) (bs (Pb.set J Z))) := o_y12
        have z12 : W11.heap.size ≤ W12.heap.size := g12.size
        have B12 : Hid (Below w.heap.size w W12) := belowGro B11.out g12 B11.out.size (Own.low o_y11.out (by have := B11.out.size; omega))
        have r_h12 : Hid (W12.heap[W1.heap.size]? = some (.cells #[.int .i64 h.n, .string h.r] 25 (0, 0))) := rowGro r_h11.out g12 (Own.neRow o_y11.out r_h11.out (by decide))
        have r_x12 : Hid (W12.heap[W7.heap.size]? = some (.cells #[.int .i64 h.n, .string h.r] 25 (0, 0))) := rowGro r_x11.out g12 (Own.neRow o_y11.out r_x11.out (by decide))
        have o_l12 : Hid (Own W12 (w.heap.size) (W1.heap.size) 9 (.slice ao_l l.length cap_l) (ss l)) := Own.gro o_l11.out g12 (Own.neOwn o_y11.out o_l11.out (by decide))
        have o_b12 : Hid (Own W12 (W2.heap.size) (W3.heap.size) 5 (.slice ao_b Pb.length cap_b) (bs Pb)) := Own.gro o_b11.out g12 (Own.neFar o_y11.out o_b11.out (by omega))
        have o_t12 : Hid (Own W12 (W6.heap.size) (W7.heap.size) 9 (.slice ao_t L_t cap_t) (ss l)) := Own.gro o_t11.out g12 (Own.neOwn o_y11.out o_t11.out (by decide))
        have c_h12_0 : W12.cell? ⟨W1.heap.size, 0, none⟩ = some (.int .i64 h.n) := row_at r_h12.out 0
        have c_h12_1 : W12.cell? ⟨W1.heap.size, 1, none⟩ = some (.string h.r) := row_at r_h12.out 1
        have c_x12_0 : W12.cell? ⟨W7.heap.size, 0, none⟩ = some (.int .i64 h.n) := row_at r_x12.out 0
        have c_x12_1 : W12.cell? ⟨W7.heap.size, 1, none⟩ = some (.string h.r) := row_at r_x12.out 1
        clear r_h11 c_h11_0 c_h11_1 r_x11 c_x11_0 c_x11_1 o_l11 o_b11 o_t11 o_y11
        clear g12
        refine wpAnyH_done (by kernel_rfl) ?_ _
        clear hHeld
        clear hcell hZ hZ2
        have e2 : getC (Pb.set J Z) 0 = no12 0 := by
          have g := get_turned (h := h) (x := l) HA.out (by omega) (by omega) (by omega) hi4 (y := Z) (by rw [← HE0.out, HJ.out, HC.out]; intro h9; injection h9 with h9; exact HZ.out.1 h9.symm)
          rw [← HE0.out, HJ.out] at g
          exact g
        have q4 : ∀ W v1, Below w.heap.size w W → Sl W v1 (bs (Pb.set J Z)) → _ := fun W v1 hW h1 => iGet W hW v1 (Pb.set J Z) 0 h1 (fun y hy => by rcases List.mem_or_eq_of_mem_set hy with h9 | h9; exact HPY.out y h9; rw [h9]; exact HZ.out.2) (by rw [List.length_set]; omega) (by omega) (by omega)
        simp only [GotC, e2, no12, hd0] at q4
        clear e2
        go_wp2_with fail
        refine (q4 W12 _ B12.out o_y12.out.sl).mono ?_
        rintro e W13 ⟨v_u, rfl, o_u13, b13⟩
        obtain ⟨ao_u, L_u, cap_u, rfl, hL_u, hM_u⟩ := o_u13.form
        have o_u13 : Hid (Own W13 W12.heap.size W13.heap.size 9 (.slice ao_u L_u cap_u) (ss [])) := o_u13
        clear hL_u hM_u
        have z13 : W12.heap.size ≤ W13.heap.size := b13.size
        have B13 : Hid (Below w.heap.size w W13) := B12.out.trans (b13.mono B12.out.size)
        have r_h13 : Hid (W13.heap[W1.heap.size]? = some (.cells #[.int .i64 h.n, .string h.r] 25 (0, 0))) := rowKeep r_h12.out b13
        have r_x13 : Hid (W13.heap[W7.heap.size]? = some (.cells #[.int .i64 h.n, .string h.r] 25 (0, 0))) := rowKeep r_x12.out b13
        have o_l13 : Hid (Own W13 (w.heap.size) (W1.heap.size) 9 (.slice ao_l l.length cap_l) (ss l)) := Own.later o_l12.out b13 (by omega)
        have o_b13 : Hid (Own W13 (W2.heap.size) (W3.heap.size) 5 (.slice ao_b Pb.length cap_b) (bs Pb)) := Own.later o_b12.out b13 (by omega)
        have o_t13 : Hid (Own W13 (W6.heap.size) (W7.heap.size) 9 (.slice ao_t L_t cap_t) (ss l)) := Own.later o_t12.out b13 (by omega)
        have o_y13 : Hid (Own W13 (W8.heap.size) (W10.heap.size) 5 (.slice (some ⟨gy, 0, none⟩) Pb.length cap_y) (bs (Pb.set J Z))) := Own.later o_y12.out b13 (by omega)
        have c_h13_0 : W13.cell? ⟨W1.heap.size, 0, none⟩ = some (.int .i64 h.n) := row_at r_h13.out 0
        have c_h13_1 : W13.cell? ⟨W1.heap.size, 1, none⟩ = some (.string h.r) := row_at r_h13.out 1
        have c_x13_0 : W13.cell? ⟨W7.heap.size, 0, none⟩ = some (.int .i64 h.n) := row_at r_x13.out 0
        have c_x13_1 : W13.cell? ⟨W7.heap.size, 1, none⟩ = some (.string h.r) := row_at r_x13.out 1
        clear r_h12 c_h12_0 c_h12_1 r_x12 c_x12_0 c_x12_1 o_l12 o_b12 o_t12 o_y12
        clear o_u13
        clear o_y13
        have a_h13_0 : ∀ o, (W13.alloc o).cell? ⟨W1.heap.size, 0, none⟩ = some (.int .i64 h.n) := fun o => keepR c_h13_0 ((Below.refl _ _).alloc (Nat.le_refl _) o)
        have a_h13_1 : ∀ o, (W13.alloc o).cell? ⟨W1.heap.size, 1, none⟩ = some (.string h.r) := fun o => keepR c_h13_1 ((Below.refl _ _).alloc (Nat.le_refl _) o)
        have a_x13_0 : ∀ o, (W13.alloc o).cell? ⟨W7.heap.size, 0, none⟩ = some (.int .i64 h.n) := fun o => keepR c_x13_0 ((Below.refl _ _).alloc (Nat.le_refl _) o)
        have a_x13_1 : ∀ o, (W13.alloc o).cell? ⟨W7.heap.size, 1, none⟩ = some (.string h.r) := fun o => keepR c_x13_1 ((Below.refl _ _).alloc (Nat.le_refl _) o)
        obtain ⟨W14, HW14, b14, y14, hS14, r_x214⟩ : ∃ X, Hid ((W13.alloc (.cells #[.int .i64 0, .string ⟨#[]⟩] 25)) = X) ∧ Below W13.heap.size W13 X ∧ W13.heap.size + 1 ≤ X.heap.size ∧ Hid (X.heap.size = W13.heap.size + 1) ∧ Hid (X.heap[W13.heap.size]? = some (.cells #[.int .i64 0, .string ⟨#[]⟩] 25 (0, 0))) := ⟨_, rfl, ((Below.refl _ _).alloc (Nat.le_refl _) _), by simp, by show _ = _; simp, (by show _ = _; exact alloc_nth1_0 W13 _)⟩
        have z14 : W13.heap.size ≤ W14.heap.size := b14.size
        have B14 : Hid (Below w.heap.size w W14) := B13.out.trans (b14.mono B13.out.size)
        have r_h14 : Hid (W14.heap[W1.heap.size]? = some (.cells #[.int .i64 h.n, .string h.r] 25 (0, 0))) := rowKeep r_h13.out b14
        have r_x14 : Hid (W14.heap[W7.heap.size]? = some (.cells #[.int .i64 h.n, .string h.r] 25 (0, 0))) := rowKeep r_x13.out b14
        have o_l14 : Hid (Own W14 (w.heap.size) (W1.heap.size) 9 (.slice ao_l l.length cap_l) (ss l)) := Own.later o_l13.out b14 (by omega)
        have o_b14 : Hid (Own W14 (W2.heap.size) (W3.heap.size) 5 (.slice ao_b Pb.length cap_b) (bs Pb)) := Own.later o_b13.out b14 (by omega)
        have o_t14 : Hid (Own W14 (W6.heap.size) (W7.heap.size) 9 (.slice ao_t L_t cap_t) (ss l)) := Own.later o_t13.out b14 (by omega)
        have c_h14_0 : W14.cell? ⟨W1.heap.size, 0, none⟩ = some (.int .i64 h.n) := row_at r_h14.out 0
        have c_h14_1 : W14.cell? ⟨W1.heap.size, 1, none⟩ = some (.string h.r) := row_at r_h14.out 1
        have c_x14_0 : W14.cell? ⟨W7.heap.size, 0, none⟩ = some (.int .i64 h.n) := row_at r_x14.out 0
        have c_x14_1 : W14.cell? ⟨W7.heap.size, 1, none⟩ = some (.string h.r) := row_at r_x14.out 1
        have c_x214_0 : W14.cell? ⟨W13.heap.size, 0, none⟩ = some (.int .i64 0) := row_at r_x214.out 0
        have c_x214_1 : W14.cell? ⟨W13.heap.size, 1, none⟩ = some (.string ⟨#[]⟩) := row_at r_x214.out 1
        clear r_h13 c_h13_0 c_h13_1 r_x13 c_x13_0 c_x13_1 o_l13 o_b13 o_t13
        go_wp2_with fail
        rw [HW14.out]
        clear a_h13_0 a_h13_1 a_x13_0 a_x13_1
        refine (qa 4 W14 (by omega) B14.out).mono ?_
        rintro e W_ ⟨m4, ⟨rfl, hm4⟩, hW_⟩
        subst hW_
        obtain ⟨Q, hQ, hQ1, hQ2⟩ : ∃ Q : Nat, Q < Pb.length ∧ (m4 : Int) % (Pb.length : Int) = (Q : Int) ∧ (m4 : Int).tmod (Pb.length : Int) = (Q : Int) := ⟨m4 % Pb.length, Nat.mod_lt _ (by omega), by omega, by rw [Int.tmod_eq_emod_of_nonneg (by omega)]; omega⟩
        have hP0 : ¬ (Pb.length : Int) = 0 := by omega
        have hQ3 : (Q : Int) ≤ (cap_b : Int) := by
          obtain ⟨a9, c9, he, h1, _⟩ := o_b14.out.sl
          injection he with _ he2 he3
          rw [bs_len] at h1
          omega
        have e3 : getC (Pb.take Q) 0 = no12 0 := by
          have g := get_cut (h := h) (x := l) HA.out (by omega) (by omega) (by omega) (k := Q) (by rw [← HE0.out]; exact hQ)
          rw [← HE0.out] at g
          exact getC_no g
        have q5 : ∀ W v1, Below w.heap.size w W → Sl W v1 (bs (Pb.take Q)) → _ := fun W v1 hW h1 => iGet W hW v1 (Pb.take Q) 0 h1 (fun y hy => HPY.out y (List.mem_of_mem_take hy)) (by rw [List.length_take]; omega) (by omega) (by omega)
        simp only [GotC, e3, no12, hd0] at q5
        clear e3
        have hF : Hid (Sl W14 (.slice ao_b Q cap_b) (bs (Pb.take Q))) := by
          show Sl _ _ _
          have h9 := Sl.front o_b14.out.sl Q (by rw [bs_len]; omega)
          have e9 : bs (Pb.take Q) = (bs Pb).take Q := by { unfold bs; rw [List.map_take] }
          rw [e9]
          exact h9
        go_wp2_with fail
        refine (q5 W14 _ B14.out hF.out).mono ?_
        rintro e W15 ⟨v_z, rfl, o_z15, b15⟩
        obtain ⟨ao_z, L_z, cap_z, rfl, hL_z, hM_z⟩ := o_z15.form
        have o_z15 : Hid (Own W15 W14.heap.size W15.heap.size 9 (.slice ao_z L_z cap_z) (ss [])) := o_z15
        clear hL_z hM_z
        have z15 : W14.heap.size ≤ W15.heap.size := b15.size
        have B15 : Hid (Below w.heap.size w W15) := B14.out.trans (b15.mono B14.out.size)
        have r_h15 : Hid (W15.heap[W1.heap.size]? = some (.cells #[.int .i64 h.n, .string h.r] 25 (0, 0))) := rowKeep r_h14.out b15
        have r_x15 : Hid (W15.heap[W7.heap.size]? = some (.cells #[.int .i64 h.n, .string h.r] 25 (0, 0))) := rowKeep r_x14.out b15
        have r_x215 : Hid (W15.heap[W13.heap.size]? = some (.cells #[.int .i64 0, .string ⟨#[]⟩] 25 (0, 0))) := rowKeep r_x214.out b15
        have o_l15 : Hid (Own W15 (w.heap.size) (W1.heap.size) 9 (.slice ao_l l.length cap_l) (ss l)) := Own.later o_l14.out b15 (by omega)
        have o_b15 : Hid (Own W15 (W2.heap.size) (W3.heap.size) 5 (.slice ao_b Pb.length cap_b) (bs Pb)) := Own.later o_b14.out b15 (by omega)
        have o_t15 : Hid (Own W15 (W6.heap.size) (W7.heap.size) 9 (.slice ao_t L_t cap_t) (ss l)) := Own.later o_t14.out b15 (by omega)
        have c_h15_0 : W15.cell? ⟨W1.heap.size, 0, none⟩ = some (.int .i64 h.n) := row_at r_h15.out 0
        have c_h15_1 : W15.cell? ⟨W1.heap.size, 1, none⟩ = some (.string h.r) := row_at r_h15.out 1
        have c_x15_0 : W15.cell? ⟨W7.heap.size, 0, none⟩ = some (.int .i64 h.n) := row_at r_x15.out 0
        have c_x15_1 : W15.cell? ⟨W7.heap.size, 1, none⟩ = some (.string h.r) := row_at r_x15.out 1
        have c_x215_0 : W15.cell? ⟨W13.heap.size, 0, none⟩ = some (.int .i64 0) := row_at r_x215.out 0
        have c_x215_1 : W15.cell? ⟨W13.heap.size, 1, none⟩ = some (.string ⟨#[]⟩) := row_at r_x215.out 1
        clear r_h14 c_h14_0 c_h14_1 r_x14 c_x14_0 c_x14_1 r_x214 c_x214_0 c_x214_1 o_l14 o_b14 o_t14
        clear o_z15
        clear hF
        have a_h15_0 : ∀ o, (W15.alloc o).cell? ⟨W1.heap.size, 0, none⟩ = some (.int .i64 h.n) := fun o => keepR c_h15_0 ((Below.refl _ _).alloc (Nat.le_refl _) o)
        have a_h15_1 : ∀ o, (W15.alloc o).cell? ⟨W1.heap.size, 1, none⟩ = some (.string h.r) := fun o => keepR c_h15_1 ((Below.refl _ _).alloc (Nat.le_refl _) o)
        have a_x15_0 : ∀ o, (W15.alloc o).cell? ⟨W7.heap.size, 0, none⟩ = some (.int .i64 h.n) := fun o => keepR c_x15_0 ((Below.refl _ _).alloc (Nat.le_refl _) o)
        have a_x15_1 : ∀ o, (W15.alloc o).cell? ⟨W7.heap.size, 1, none⟩ = some (.string h.r) := fun o => keepR c_x15_1 ((Below.refl _ _).alloc (Nat.le_refl _) o)
        have a_x215_0 : ∀ o, (W15.alloc o).cell? ⟨W13.heap.size, 0, none⟩ = some (.int .i64 0) := fun o => keepR c_x215_0 ((Below.refl _ _).alloc (Nat.le_refl _) o)
        have a_x215_1 : ∀ o, (W15.alloc o).cell? ⟨W13.heap.size, 1, none⟩ = some (.string ⟨#[]⟩) := fun o => keepR c_x215_1 ((Below.refl _ _).alloc (Nat.le_refl _) o)
        obtain ⟨W16, HW16, b16, y16, hS16, r_x316⟩ : ∃ X, Hid ((W15.alloc (.cells #[.int .i64 0, .string ⟨#[]⟩] 25)) = X) ∧ Below W15.heap.size W15 X ∧ W15.heap.size + 1 ≤ X.heap.size ∧ Hid (X.heap.size = W15.heap.size + 1) ∧ Hid (X.heap[W15.heap.size]? = some (.cells #[.int .i64 0, .string ⟨#[]⟩] 25 (0, 0))) := ⟨_, rfl, ((Below.refl _ _).alloc (Nat.le_refl _) _), by simp, by show _ = _; simp, (by show _ = _; exact alloc_nth1_0 W15 _)⟩
        have z16 : W15.heap.size ≤ W16.heap.size := b16.size
        have B16 : Hid (Below w.heap.size w W16) := B15.out.trans (b16.mono B15.out.size)
        have r_h16 : Hid (W16.heap[W1.heap.size]? = some (.cells #[.int .i64 h.n, .string h.r] 25 (0, 0))) := rowKeep r_h15.out b16
        have r_x16 : Hid (W16.heap[W7.heap.size]? = some (.cells #[.int .i64 h.n, .string h.r] 25 (0, 0))) := rowKeep r_x15.out b16
        have r_x216 : Hid (W16.heap[W13.heap.size]? = some (.cells #[.int .i64 0, .string ⟨#[]⟩] 25 (0, 0))) := rowKeep r_x215.out b16
        have o_l16 : Hid (Own W16 (w.heap.size) (W1.heap.size) 9 (.slice ao_l l.length cap_l) (ss l)) := Own.later o_l15.out b16 (by omega)
        have o_b16 : Hid (Own W16 (W2.heap.size) (W3.heap.size) 5 (.slice ao_b Pb.length cap_b) (bs Pb)) := Own.later o_b15.out b16 (by omega)
        have o_t16 : Hid (Own W16 (W6.heap.size) (W7.heap.size) 9 (.slice ao_t L_t cap_t) (ss l)) := Own.later o_t15.out b16 (by omega)
        have c_h16_0 : W16.cell? ⟨W1.heap.size, 0, none⟩ = some (.int .i64 h.n) := row_at r_h16.out 0
        have c_h16_1 : W16.cell? ⟨W1.heap.size, 1, none⟩ = some (.string h.r) := row_at r_h16.out 1
        have c_x16_0 : W16.cell? ⟨W7.heap.size, 0, none⟩ = some (.int .i64 h.n) := row_at r_x16.out 0
        have c_x16_1 : W16.cell? ⟨W7.heap.size, 1, none⟩ = some (.string h.r) := row_at r_x16.out 1
        have c_x216_0 : W16.cell? ⟨W13.heap.size, 0, none⟩ = some (.int .i64 0) := row_at r_x216.out 0
        have c_x216_1 : W16.cell? ⟨W13.heap.size, 1, none⟩ = some (.string ⟨#[]⟩) := row_at r_x216.out 1
        have c_x316_0 : W16.cell? ⟨W15.heap.size, 0, none⟩ = some (.int .i64 0) := row_at r_x316.out 0
        have c_x316_1 : W16.cell? ⟨W15.heap.size, 1, none⟩ = some (.string ⟨#[]⟩) := row_at r_x316.out 1
        clear r_h15 c_h15_0 c_h15_1 r_x15 c_x15_0 c_x15_1 r_x215 c_x215_0 c_x215_1 o_l15 o_b15 o_t15
        have ee : ∀ W, _ := fun W => eqlH W h h
        have hhh : eqH h h = true := (eqH_iff _ _).2 rfl
        simp only [hhh] at ee
        have gg : ∀ W op y z xs ys, _ := fun W op y z xs ys => grdH W op y z xs ys
        have w9 : IntKind.i64.wrap ((Pb.length : Int) + 1) = (Pb.length : Int) + 1 := by rw [IntKind.wrap_i64]; omega
        go_wp2_with fail
        rw [HW16.out]
        clear a_h15_0 a_h15_1 a_x15_0 a_x15_1 a_x215_0 a_x215_1
        refine (Draw.same_true W16 _ _ l o_t16.out.sl o_l16.out.sl (by omega)).mono ?_
        rintro e W17 ⟨rfl, h17, _⟩
        have b17 : Below W16.heap.size W16 W17 := h17 _
        clear h17
        have z17 : W16.heap.size ≤ W17.heap.size := b17.size
        have B17 : Hid (Below w.heap.size w W17) := B16.out.trans (b17.mono B16.out.size)
        have r_h17 : Hid (W17.heap[W1.heap.size]? = some (.cells #[.int .i64 h.n, .string h.r] 25 (0, 0))) := rowKeep r_h16.out b17
        have r_x17 : Hid (W17.heap[W7.heap.size]? = some (.cells #[.int .i64 h.n, .string h.r] 25 (0, 0))) := rowKeep r_x16.out b17
        have r_x217 : Hid (W17.heap[W13.heap.size]? = some (.cells #[.int .i64 0, .string ⟨#[]⟩] 25 (0, 0))) := rowKeep r_x216.out b17
        have r_x317 : Hid (W17.heap[W15.heap.size]? = some (.cells #[.int .i64 0, .string ⟨#[]⟩] 25 (0, 0))) := rowKeep r_x316.out b17
        have o_l17 : Hid (Own W17 (w.heap.size) (W1.heap.size) 9 (.slice ao_l l.length cap_l) (ss l)) := Own.later o_l16.out b17 (by omega)
        have o_b17 : Hid (Own W17 (W2.heap.size) (W3.heap.size) 5 (.slice ao_b Pb.length cap_b) (bs Pb)) := Own.later o_b16.out b17 (by omega)
        have o_t17 : Hid (Own W17 (W6.heap.size) (W7.heap.size) 9 (.slice ao_t L_t cap_t) (ss l)) := Own.later o_t16.out b17 (by omega)
        have c_h17_0 : W17.cell? ⟨W1.heap.size, 0, none⟩ = some (.int .i64 h.n) := row_at r_h17.out 0
        have c_h17_1 : W17.cell? ⟨W1.heap.size, 1, none⟩ = some (.string h.r) := row_at r_h17.out 1
        have c_x17_0 : W17.cell? ⟨W7.heap.size, 0, none⟩ = some (.int .i64 h.n) := row_at r_x17.out 0
        have c_x17_1 : W17.cell? ⟨W7.heap.size, 1, none⟩ = some (.string h.r) := row_at r_x17.out 1
        have c_x217_0 : W17.cell? ⟨W13.heap.size, 0, none⟩ = some (.int .i64 0) := row_at r_x217.out 0
        have c_x217_1 : W17.cell? ⟨W13.heap.size, 1, none⟩ = some (.string ⟨#[]⟩) := row_at r_x217.out 1
        have c_x317_0 : W17.cell? ⟨W15.heap.size, 0, none⟩ = some (.int .i64 0) := row_at r_x317.out 0
        have c_x317_1 : W17.cell? ⟨W15.heap.size, 1, none⟩ = some (.string ⟨#[]⟩) := row_at r_x317.out 1
        clear r_h16 c_h16_0 c_h16_1 r_x16 c_x16_0 c_x16_1 r_x216 c_x216_0 c_x216_1 r_x316 c_x316_0 c_x316_1 o_l16 o_b16 o_t16
        go_wp2
        go_ret
        exact ⟨rfl, B17.out⟩

end Go.Proofs.YtfpaichdkddglaaDoor.Sr
