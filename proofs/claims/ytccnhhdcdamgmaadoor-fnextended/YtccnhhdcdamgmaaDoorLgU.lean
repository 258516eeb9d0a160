/- Chapter 11: FnExtended, over contracts of the landed functions. -/
import Derived.Test.YtccnhhdcdamgmaaDoorLgG
import Derived.Test.YtccnhhdcdamgmaaDoorLg2
import Derived.Test.YtccnhhdcdamgmaaDoorCl2
import Derived.Test.YtccnhhdcdamgmaaDoorTrL
import Derived.Test.YtccnhhdcdamgmaaDoorNth
namespace Go.Proofs.YtccnhhdcdamgmaaDoor.Lg
open Go.RowKit Go.Proofs.YtccnhhdcdamgmaaDoor.Mem Go.Proofs.YtccnhhdcdamgmaaDoor.Laws Go.Proofs.YtccnhhdcdamgmaaDoor.Bytes Go.Proofs.YtccnhhdcdamgmaaDoor.Sha Go.Proofs.YtccnhhdcdamgmaaDoor.Tr Go.Proofs.YtccnhhdcdamgmaaDoor.Draw Go.Proofs.YtccnhhdcdamgmaaDoor.He
set_option linter.unusedVariables false
set_option linter.unusedSimpArgs false

theorem okH_n {h : Hd} (hk : okH h = true) : 0 ≤ h.n ∧ h.n ≤ 200 := by
  unfold okH at hk
  simp only [decide_eq_true_eq] at hk
  exact hk.1
/-- either all of them are taken, and all is right; or nothing is -/
theorem extend_cases (l : List ByteArray) (hd : Hd) (t : List Hd) (h : Hd) (x : List ByteArray) :
    (∃ c : Int, c ≠ 0 ∧ extend l hd t h x = (l, hd, c)) ∨ (extend l hd t h x = (l ++ x, h, 0) ∧ logOk (l ++ x) h = true ∧ signed t h = true ∧ h = headOf (l ++ x) ∧ 1 ≤ x.length) := by
  unfold extend
  by_cases h1 : logOk l hd = true ∧ okH h = true ∧ h.n = ((l ++ x).length : Int)
  · rw [if_pos h1]
    by_cases h2 : signed t h = true
    · rw [if_pos h2]
      by_cases h3 : x.length = 0
      · rw [if_pos h3]; exact .inl ⟨3, by decide, rfl⟩
      · rw [if_neg h3]
        by_cases h4 : eqH h (headOf (l ++ x)) = true
        · rw [if_pos h4]
          have he := (eqH_iff _ _).1 h4
          have hn := okH_n h1.2.1
          have hl : (l ++ x).length ≤ 200 := by rw [h1.2.2] at hn; omega
          refine .inr ⟨rfl, ?_, h2, he, by omega⟩
          have := logOk_of hl
          rw [← he] at this
          exact this
        · rw [if_neg h4]; exact .inl ⟨4, by decide, rfl⟩
    · rw [if_neg h2]; exact .inl ⟨2, by decide, rfl⟩
  · rw [if_neg h1]; exact .inl ⟨1, by decide, rfl⟩
/-- append where the operation is guarded, and wanted -/
theorem step_appW {P : Program} {w : World} {ops : Array Oper} {o : Oper} {a : Act} {K : Act → World → Prop} {Q : Exit → Act → World → Prop} {E : Prop}
    (hw : Region.wanted o (yielded ops a.tmps) = true) (s x : Operand) (t : TypeId) (hop : o.op = Op.call { callee := Callee.builtin Builtin.append, args := #[s, x], argTypes := #[t, t] })
    (e : TypeId) (i : TypeInfo) (z : Value) (bytes : Nat) (ht : P.underlying t = some (.slice e)) (hi : P.info? e = some i) (hz : i.zero = some z) (hsize : i.size = 1) (hby : i.bytes = bytes) (hzs : z.cells.size = 1)
    (lo : Nat) (v : Value) (cs : List Value) (hs : a.eval s = v) (hown : Own w lo w.heap.size e v cs) (y : Value) (hx : a.eval x = y) (news : List Value) (hsl : Sl w y news)
    (h1 : ∀ u ∈ news, u.oneCell' = true) (h63 : cs.length + news.length ≤ maxLen) (hb : (cs.length + news.length) * bytes ≤ 140737488355328) (hlo : lo ≤ w.heap.size)
    (hK : ∀ v' w', Own w' lo w'.heap.size e v' (cs ++ news) → Below lo w w' → K (a.put o.dst v') w') : if Region.wanted o (yielded ops a.tmps) = true then Oper.wp P o a w K Q else E := by
  rw [if_pos hw]
  have h := step_app (P := P) (w := w) (ops := ops) (o := { o with guard := none }) (a := a) (K := K) (Q := Q) (E := True) rfl s x t hop e i z bytes ht hi hz hsize hby hzs lo v cs hs hown y hx news hsl h1 h63 hb hlo hK
  rw [if_pos (by simp [Region.wanted])] at h
  exact h
theorem eqH_same (h : Hd) : eqH h h = true := (eqH_iff _ _).2 rfl

set_option maxRecDepth 1000000 in
set_option maxHeartbeats 16000000 in
theorem extended11 (w : World) (v0 : Value) (xs0 : List Int) (h0 : Sl w v0 (bs xs0)) (y0 : Byt xs0) (m0 : xs0.length ≤ maxLen)
    (iExt : ∀ W, Below w.heap.size w W → ∀ (v1 v2 v3 : Value) (l x : List ByteArray) (hd h : Hd) (t : List Hd), Sl W v1 (ss l) → Sh W v2 t → Sl W v3 (ss x) → l.length ≤ 1000 → (∀ s ∈ l, s.size ≤ 1000) → hd.r.size ≤ 1000 → t.length ≤ 1000 → (∀ n ∈ t, n.r.size ≤ 1000) → h.r.size ≤ 1000 → x.length ≤ 1000 → (∀ s ∈ x, s.size ≤ 1000) → Calls Tryd.prog 11 #[.agg #[v1, .int .i64 hd.n, .string hd.r], v2, .agg #[.int .i64 h.n, .string h.r], v3] W fun e w' => ∃ v'', e = .returned (.tuple #[.agg #[v'', .int .i64 (extend l hd t h x).2.1.n, .string (extend l hd t h x).2.1.r], .int .i64 (extend l hd t h x).2.2]) ∧ Own w' W.heap.size w'.heap.size 9 v'' (ss (extend l hd t h x).1) ∧ Below W.heap.size W w')
    (iOk : ∀ W, Below w.heap.size w W → ∀ (v' : Value) (l : List ByteArray) (h : Hd), Sl W v' (ss l) → l.length ≤ 1000 → (∀ s ∈ l, s.size ≤ 1000) → h.r.size ≤ 1000 → Calls Tryd.prog 14 #[.agg #[v', .int .i64 h.n, .string h.r]] W fun e w' => e = .returned (.bool (logOk l h)) ∧ Below W.heap.size W w')
    (iSig : ∀ W, Below w.heap.size w W → ∀ (v' : Value) (t : List Hd) (h : Hd), Sh W v' t → t.length ≤ 1000 → (∀ x ∈ t, x.r.size ≤ 1000) → h.r.size ≤ 1000 → Calls Tryd.prog 15 #[v', .agg #[.int .i64 h.n, .string h.r]] W fun e w' => e = .returned (.bool (signed t h)) ∧ Below W.heap.size W w')
    (iHd : ∀ W, Below w.heap.size w W → ∀ (v' : Value) (l : List ByteArray), Sl W v' (ss l) → l.length ≤ 1000 → (∀ s ∈ l, s.size ≤ 1000) → Calls Tryd.prog 16 #[v'] W fun e w' => e = .returned (.agg #[.int .i64 (headOf l).n, .string (headOf l).r]) ∧ Below W.heap.size W w') :
    Calls Tryd.prog 3 #[v0] w fun e w' => e = .returned (.bool true) ∧ Below w.heap.size w w' := by
  obtain ⟨i0, hi, hz0, hz1, hz2⟩ := info_parts info9t
  have hs := h0
  have hby := y0
  obtain ⟨ao0, cap0, rfl, -, -, -⟩ := h0
  rw [Mem.bs_len] at hs ⊢
  clear m0 y0
  by_cases hbig : 1048576 < xs0.length
  · have qb := big_yes w ao0 xs0.length cap0 hbig
    clear iExt iOk iSig iHd
    go_enter Tryd.func3, Tryd.ntmps3
    go_wp2_with fail
    refine qb.mono ?_
    rintro e w1 ⟨rfl, rfl⟩
    go_wp2
    go_ret
    exact ⟨rfl, Below.refl _ _⟩
  have qb := big_no w ao0 xs0.length cap0 hbig
  have qd := drawExtend_any w _ xs0 hs hby (by omega)
  clear hbig hs hby
  go_enter Tryd.func3, Tryd.ntmps3
  go_wp2_with fail
  refine qb.mono ?_
  rintro e wx ⟨rfl, rfl⟩
  clear qb
  go_wp2_with fail
  refine qd.mono ?_
  rintro e W1 ⟨v9, l, hd, vt, t, h, vx, x, rfl, hBd, hsl, hst, hsx, b1⟩
  clear qd
  obtain ⟨a1, a2, a3, a4, a5, a6, a7, a8⟩ := hBd
  obtain ⟨ao1, cap1, rfl, hc1⟩ := hsl.form
  obtain ⟨ao2, cap2, rfl, hc2⟩ := hst.form
  obtain ⟨ao3, cap3, rfl, hc3⟩ := hsx.form
  simp only [ss_len] at *
  have HS1 : Hid (Sl W1 (.slice ao1 l.length cap1) (ss l)) := hsl
  have HT1 : Hid (Sh W1 (.slice ao2 t.length cap2) t) := hst
  have HX1 : Hid (Sl W1 (.slice ao3 x.length cap3) (ss x)) := hsx
  have q2 : ∀ W v1 v2 v3, Below w.heap.size w W → Sl W v1 (ss l) → Sh W v2 t → Sl W v3 (ss x) → _ := fun W v1 v2 v3 hB h1 h2 h3 => iExt W hB v1 v2 v3 l x hd h t h1 h2 h3 (by omega) (fun s hs => by have := a2 s hs; omega) (by omega) (by omega) (fun s hs => by have := a5 s hs; omega) (by omega) (by omega) (fun s hs => by have := a8 s hs; omega)
  have q1 : ∀ W v1 v2 v3, Sl W v1 (ss l) → Sh W v2 t → Sl W v3 (ss x) → _ := fun W v1 v2 v3 h1 h2 h3 => extend_spec W v1 v2 v3 l x hd h t h1 h2 h3 (by omega) (by omega) (by omega) (fun s hs => by have := a2 s hs; omega) (fun s hs => by have := a8 s hs; omega)
  have e2 : ∀ W op y z xs ys, _ := fun W op y z xs ys => grdH W op y z xs ys
  clear hsl hst hsx iExt
  rcases extend_cases l hd t h x with ⟨c, hc, hq⟩ | ⟨hq, hlo, hsg, hhe, hx1⟩
  · simp only [hq] at q1 q2
    have nc : (c != c) = false := by simp
    have n0 : (c != 0) = true := by simp [hc]
    have ne : (c == c) = true := by simp
    have e1 : ∀ W, _ := fun W => eqlH W hd hd
    simp only [eqH_same] at e1
    clear hq hc iOk iSig iHd a2 a5 a8
    have B1 : Hid (Below w.heap.size w W1) := b1
    have z1 : w.heap.size ≤ W1.heap.size := b1.size
    obtain ⟨W2, HW2, b2, y2, hS2, r_l2, r_h2⟩ : ∃ X, Hid (((W1.alloc (.cells #[.slice ao1 l.length cap1, .int .i64 hd.n, .string hd.r] 28)).alloc (.cells #[.int .i64 h.n, .string h.r] 26)) = X) ∧ Below W1.heap.size W1 X ∧ W1.heap.size + 2 ≤ X.heap.size ∧ Hid (X.heap.size = W1.heap.size + 1 + 1) ∧ Hid (X.heap[W1.heap.size]? = some (.cells #[.slice ao1 l.length cap1, .int .i64 hd.n, .string hd.r] 28 (0, 0))) ∧ Hid (X.heap[W1.heap.size + 1]? = some (.cells #[.int .i64 h.n, .string h.r] 26 (0, 0))) := ⟨_, rfl, (((Below.refl _ _).alloc (Nat.le_refl _) _).alloc (by simp) _), by simp, by show _ = _; simp, (by show _ = _; exact alloc_nth2_0 W1 _ _), (by show _ = _; exact alloc_nth2_1 W1 _ _)⟩
    have z2 : W1.heap.size ≤ W2.heap.size := b2.size
    have B2 : Hid (Below w.heap.size w W2) := B1.out.trans (b2.mono B1.out.size)
    have c_l2_0 : W2.cell? ⟨W1.heap.size, 0, none⟩ = some (.slice ao1 l.length cap1) := row_at r_l2.out 0
    have c_l2_1 : W2.cell? ⟨W1.heap.size, 1, none⟩ = some (.int .i64 hd.n) := row_at r_l2.out 1
    have c_l2_2 : W2.cell? ⟨W1.heap.size, 2, none⟩ = some (.string hd.r) := row_at r_l2.out 2
    have c_h2_0 : W2.cell? ⟨W1.heap.size + 1, 0, none⟩ = some (.int .i64 h.n) := row_at r_h2.out 0
    have c_h2_1 : W2.cell? ⟨W1.heap.size + 1, 1, none⟩ = some (.string h.r) := row_at r_h2.out 1
    go_wp2_with fail
    rw [HW2.out]
    refine (q2 W2 _ _ _ B2.out (HS1.out.later b2) (HT1.out.later b2) (HX1.out.later b2)).mono ?_
    rintro e W3 ⟨v_g, rfl, o_g3, b3⟩
    obtain ⟨ao_g, L_g, cap_g, rfl, hL_g, hM_g⟩ := o_g3.form
    have o_g3 : Hid (Own W3 W2.heap.size W3.heap.size 9 (.slice ao_g L_g cap_g) (ss l)) := o_g3
    clear hL_g hM_g
    have z3 : W2.heap.size ≤ W3.heap.size := b3.size
    have B3 : Hid (Below w.heap.size w W3) := B2.out.trans (b3.mono B2.out.size)
    have r_l3 : Hid (W3.heap[W1.heap.size]? = some (.cells #[.slice ao1 l.length cap1, .int .i64 hd.n, .string hd.r] 28 (0, 0))) := rowKeep r_l2.out b3
    have r_h3 : Hid (W3.heap[W1.heap.size + 1]? = some (.cells #[.int .i64 h.n, .string h.r] 26 (0, 0))) := rowKeep r_h2.out b3
    have c_l3_0 : W3.cell? ⟨W1.heap.size, 0, none⟩ = some (.slice ao1 l.length cap1) := row_at r_l3.out 0
    have c_l3_1 : W3.cell? ⟨W1.heap.size, 1, none⟩ = some (.int .i64 hd.n) := row_at r_l3.out 1
    have c_l3_2 : W3.cell? ⟨W1.heap.size, 2, none⟩ = some (.string hd.r) := row_at r_l3.out 2
    have c_h3_0 : W3.cell? ⟨W1.heap.size + 1, 0, none⟩ = some (.int .i64 h.n) := row_at r_h3.out 0
    have c_h3_1 : W3.cell? ⟨W1.heap.size + 1, 1, none⟩ = some (.string h.r) := row_at r_h3.out 1
    clear r_l2 c_l2_0 c_l2_1 c_l2_2 r_h2 c_h2_0 c_h2_1
    have a_l3_0 : ∀ o, (W3.alloc o).cell? ⟨W1.heap.size, 0, none⟩ = some (.slice ao1 l.length cap1) := fun o => keepR c_l3_0 ((Below.refl _ _).alloc (Nat.le_refl _) o)
    have a_l3_1 : ∀ o, (W3.alloc o).cell? ⟨W1.heap.size, 1, none⟩ = some (.int .i64 hd.n) := fun o => keepR c_l3_1 ((Below.refl _ _).alloc (Nat.le_refl _) o)
    have a_l3_2 : ∀ o, (W3.alloc o).cell? ⟨W1.heap.size, 2, none⟩ = some (.string hd.r) := fun o => keepR c_l3_2 ((Below.refl _ _).alloc (Nat.le_refl _) o)
    have a_h3_0 : ∀ o, (W3.alloc o).cell? ⟨W1.heap.size + 1, 0, none⟩ = some (.int .i64 h.n) := fun o => keepR c_h3_0 ((Below.refl _ _).alloc (Nat.le_refl _) o)
    have a_h3_1 : ∀ o, (W3.alloc o).cell? ⟨W1.heap.size + 1, 1, none⟩ = some (.string h.r) := fun o => keepR c_h3_1 ((Below.refl _ _).alloc (Nat.le_refl _) o)
    obtain ⟨W4, HW4, b4, y4, hS4, r_x04⟩ : ∃ X, Hid ((W3.alloc (.cells #[.slice ao_g L_g cap_g, .int .i64 hd.n, .string hd.r] 28)) = X) ∧ Below W3.heap.size W3 X ∧ W3.heap.size + 1 ≤ X.heap.size ∧ Hid (X.heap.size = W3.heap.size + 1) ∧ Hid (X.heap[W3.heap.size]? = some (.cells #[.slice ao_g L_g cap_g, .int .i64 hd.n, .string hd.r] 28 (0, 0))) := ⟨_, rfl, ((Below.refl _ _).alloc (Nat.le_refl _) _), by simp, by show _ = _; simp, (by show _ = _; exact alloc_nth1_0 W3 _)⟩
    have z4 : W3.heap.size ≤ W4.heap.size := b4.size
    have B4 : Hid (Below w.heap.size w W4) := B3.out.trans (b4.mono B3.out.size)
    have r_l4 : Hid (W4.heap[W1.heap.size]? = some (.cells #[.slice ao1 l.length cap1, .int .i64 hd.n, .string hd.r] 28 (0, 0))) := rowKeep r_l3.out b4
    have r_h4 : Hid (W4.heap[W1.heap.size + 1]? = some (.cells #[.int .i64 h.n, .string h.r] 26 (0, 0))) := rowKeep r_h3.out b4
    have o_g4 : Hid (Own W4 (W2.heap.size) (W3.heap.size) 9 (.slice ao_g L_g cap_g) (ss l)) := Own.later o_g3.out b4 (by omega)
    have c_l4_0 : W4.cell? ⟨W1.heap.size, 0, none⟩ = some (.slice ao1 l.length cap1) := row_at r_l4.out 0
    have c_l4_1 : W4.cell? ⟨W1.heap.size, 1, none⟩ = some (.int .i64 hd.n) := row_at r_l4.out 1
    have c_l4_2 : W4.cell? ⟨W1.heap.size, 2, none⟩ = some (.string hd.r) := row_at r_l4.out 2
    have c_h4_0 : W4.cell? ⟨W1.heap.size + 1, 0, none⟩ = some (.int .i64 h.n) := row_at r_h4.out 0
    have c_h4_1 : W4.cell? ⟨W1.heap.size + 1, 1, none⟩ = some (.string h.r) := row_at r_h4.out 1
    have c_x04_0 : W4.cell? ⟨W3.heap.size, 0, none⟩ = some (.slice ao_g L_g cap_g) := row_at r_x04.out 0
    have c_x04_1 : W4.cell? ⟨W3.heap.size, 1, none⟩ = some (.int .i64 hd.n) := row_at r_x04.out 1
    have c_x04_2 : W4.cell? ⟨W3.heap.size, 2, none⟩ = some (.string hd.r) := row_at r_x04.out 2
    clear r_l3 c_l3_0 c_l3_1 c_l3_2 r_h3 c_h3_0 c_h3_1 o_g3
    have E4 : Hid (Below W1.heap.size W1 W4) := ((((b2).trans (b3.mono (b2).size))).trans (b4.mono (((b2).trans (b3.mono (b2).size))).size))
    go_wp2_with fail
    rw [HW4.out]
    clear a_l3_0 a_l3_1 a_l3_2 a_h3_0 a_h3_1
    refine (q1 W4 _ _ _ (HS1.out.later E4.out) (HT1.out.later E4.out) (HX1.out.later E4.out)).mono ?_
    rintro e W5 ⟨v_s, rfl, o_s5, b5⟩
    obtain ⟨ao_s, L_s, cap_s, rfl, hL_s, hM_s⟩ := o_s5.form
    have o_s5 : Hid (Own W5 W4.heap.size W5.heap.size 9 (.slice ao_s L_s cap_s) (ss l)) := o_s5
    clear hL_s hM_s
    have z5 : W4.heap.size ≤ W5.heap.size := b5.size
    have B5 : Hid (Below w.heap.size w W5) := B4.out.trans (b5.mono B4.out.size)
    have r_l5 : Hid (W5.heap[W1.heap.size]? = some (.cells #[.slice ao1 l.length cap1, .int .i64 hd.n, .string hd.r] 28 (0, 0))) := rowKeep r_l4.out b5
    have r_h5 : Hid (W5.heap[W1.heap.size + 1]? = some (.cells #[.int .i64 h.n, .string h.r] 26 (0, 0))) := rowKeep r_h4.out b5
    have r_x05 : Hid (W5.heap[W3.heap.size]? = some (.cells #[.slice ao_g L_g cap_g, .int .i64 hd.n, .string hd.r] 28 (0, 0))) := rowKeep r_x04.out b5
    have o_g5 : Hid (Own W5 (W2.heap.size) (W3.heap.size) 9 (.slice ao_g L_g cap_g) (ss l)) := Own.later o_g4.out b5 (by omega)
    have c_l5_0 : W5.cell? ⟨W1.heap.size, 0, none⟩ = some (.slice ao1 l.length cap1) := row_at r_l5.out 0
    have c_l5_1 : W5.cell? ⟨W1.heap.size, 1, none⟩ = some (.int .i64 hd.n) := row_at r_l5.out 1
    have c_l5_2 : W5.cell? ⟨W1.heap.size, 2, none⟩ = some (.string hd.r) := row_at r_l5.out 2
    have c_h5_0 : W5.cell? ⟨W1.heap.size + 1, 0, none⟩ = some (.int .i64 h.n) := row_at r_h5.out 0
    have c_h5_1 : W5.cell? ⟨W1.heap.size + 1, 1, none⟩ = some (.string h.r) := row_at r_h5.out 1
    have c_x05_0 : W5.cell? ⟨W3.heap.size, 0, none⟩ = some (.slice ao_g L_g cap_g) := row_at r_x05.out 0
    have c_x05_1 : W5.cell? ⟨W3.heap.size, 1, none⟩ = some (.int .i64 hd.n) := row_at r_x05.out 1
    have c_x05_2 : W5.cell? ⟨W3.heap.size, 2, none⟩ = some (.string hd.r) := row_at r_x05.out 2
    clear r_l4 c_l4_0 c_l4_1 c_l4_2 r_h4 c_h4_0 c_h4_1 r_x04 c_x04_0 c_x04_1 c_x04_2 o_g4
    have a_l5_0 : ∀ o, (W5.alloc o).cell? ⟨W1.heap.size, 0, none⟩ = some (.slice ao1 l.length cap1) := fun o => keepR c_l5_0 ((Below.refl _ _).alloc (Nat.le_refl _) o)
    have a_l5_1 : ∀ o, (W5.alloc o).cell? ⟨W1.heap.size, 1, none⟩ = some (.int .i64 hd.n) := fun o => keepR c_l5_1 ((Below.refl _ _).alloc (Nat.le_refl _) o)
    have a_l5_2 : ∀ o, (W5.alloc o).cell? ⟨W1.heap.size, 2, none⟩ = some (.string hd.r) := fun o => keepR c_l5_2 ((Below.refl _ _).alloc (Nat.le_refl _) o)
    have a_h5_0 : ∀ o, (W5.alloc o).cell? ⟨W1.heap.size + 1, 0, none⟩ = some (.int .i64 h.n) := fun o => keepR c_h5_0 ((Below.refl _ _).alloc (Nat.le_refl _) o)
    have a_h5_1 : ∀ o, (W5.alloc o).cell? ⟨W1.heap.size + 1, 1, none⟩ = some (.string h.r) := fun o => keepR c_h5_1 ((Below.refl _ _).alloc (Nat.le_refl _) o)
    have a_x05_0 : ∀ o, (W5.alloc o).cell? ⟨W3.heap.size, 0, none⟩ = some (.slice ao_g L_g cap_g) := fun o => keepR c_x05_0 ((Below.refl _ _).alloc (Nat.le_refl _) o)
    have a_x05_1 : ∀ o, (W5.alloc o).cell? ⟨W3.heap.size, 1, none⟩ = some (.int .i64 hd.n) := fun o => keepR c_x05_1 ((Below.refl _ _).alloc (Nat.le_refl _) o)
    have a_x05_2 : ∀ o, (W5.alloc o).cell? ⟨W3.heap.size, 2, none⟩ = some (.string hd.r) := fun o => keepR c_x05_2 ((Below.refl _ _).alloc (Nat.le_refl _) o)
    obtain ⟨W6, HW6, b6, y6, hS6, r_s06⟩ : ∃ X, Hid ((W5.alloc (.cells #[.slice ao_s L_s cap_s, .int .i64 hd.n, .string hd.r] 28)) = X) ∧ Below W5.heap.size W5 X ∧ W5.heap.size + 1 ≤ X.heap.size ∧ Hid (X.heap.size = W5.heap.size + 1) ∧ Hid (X.heap[W5.heap.size]? = some (.cells #[.slice ao_s L_s cap_s, .int .i64 hd.n, .string hd.r] 28 (0, 0))) := ⟨_, rfl, ((Below.refl _ _).alloc (Nat.le_refl _) _), by simp, by show _ = _; simp, (by show _ = _; exact alloc_nth1_0 W5 _)⟩
    have z6 : W5.heap.size ≤ W6.heap.size := b6.size
    have B6 : Hid (Below w.heap.size w W6) := B5.out.trans (b6.mono B5.out.size)
    have r_l6 : Hid (W6.heap[W1.heap.size]? = some (.cells #[.slice ao1 l.length cap1, .int .i64 hd.n, .string hd.r] 28 (0, 0))) := rowKeep r_l5.out b6
    have r_h6 : Hid (W6.heap[W1.heap.size + 1]? = some (.cells #[.int .i64 h.n, .string h.r] 26 (0, 0))) := rowKeep r_h5.out b6
    have r_x06 : Hid (W6.heap[W3.heap.size]? = some (.cells #[.slice ao_g L_g cap_g, .int .i64 hd.n, .string hd.r] 28 (0, 0))) := rowKeep r_x05.out b6
    have o_g6 : Hid (Own W6 (W2.heap.size) (W3.heap.size) 9 (.slice ao_g L_g cap_g) (ss l)) := Own.later o_g5.out b6 (by omega)
    have o_s6 : Hid (Own W6 (W4.heap.size) (W5.heap.size) 9 (.slice ao_s L_s cap_s) (ss l)) := Own.later o_s5.out b6 (by omega)
    have c_l6_0 : W6.cell? ⟨W1.heap.size, 0, none⟩ = some (.slice ao1 l.length cap1) := row_at r_l6.out 0
    have c_l6_1 : W6.cell? ⟨W1.heap.size, 1, none⟩ = some (.int .i64 hd.n) := row_at r_l6.out 1
    have c_l6_2 : W6.cell? ⟨W1.heap.size, 2, none⟩ = some (.string hd.r) := row_at r_l6.out 2
    have c_h6_0 : W6.cell? ⟨W1.heap.size + 1, 0, none⟩ = some (.int .i64 h.n) := row_at r_h6.out 0
    have c_h6_1 : W6.cell? ⟨W1.heap.size + 1, 1, none⟩ = some (.string h.r) := row_at r_h6.out 1
    have c_x06_0 : W6.cell? ⟨W3.heap.size, 0, none⟩ = some (.slice ao_g L_g cap_g) := row_at r_x06.out 0
    have c_x06_1 : W6.cell? ⟨W3.heap.size, 1, none⟩ = some (.int .i64 hd.n) := row_at r_x06.out 1
    have c_x06_2 : W6.cell? ⟨W3.heap.size, 2, none⟩ = some (.string hd.r) := row_at r_x06.out 2
    have c_s06_0 : W6.cell? ⟨W5.heap.size, 0, none⟩ = some (.slice ao_s L_s cap_s) := row_at r_s06.out 0
    have c_s06_1 : W6.cell? ⟨W5.heap.size, 1, none⟩ = some (.int .i64 hd.n) := row_at r_s06.out 1
    have c_s06_2 : W6.cell? ⟨W5.heap.size, 2, none⟩ = some (.string hd.r) := row_at r_s06.out 2
    clear r_l5 c_l5_0 c_l5_1 c_l5_2 r_h5 c_h5_0 c_h5_1 r_x05 c_x05_0 c_x05_1 c_x05_2 o_g5 o_s5
    clear q1 q2
    clear r_s06 c_s06_0 c_s06_1 c_s06_2
    clear o_s6
    have E6 : Hid (Below W1.heap.size W1 W6) := ((((((((b2).trans (b3.mono (b2).size))).trans (b4.mono (((b2).trans (b3.mono (b2).size))).size))).trans (b5.mono (((((b2).trans (b3.mono (b2).size))).trans (b4.mono (((b2).trans (b3.mono (b2).size))).size))).size))).trans (b6.mono (((((((b2).trans (b3.mono (b2).size))).trans (b4.mono (((b2).trans (b3.mono (b2).size))).size))).trans (b5.mono (((((b2).trans (b3.mono (b2).size))).trans (b4.mono (((b2).trans (b3.mono (b2).size))).size))).size))).size))
    go_wp2_with fail
    rw [HW6.out]
    clear a_l5_0 a_l5_1 a_l5_2 a_h5_0 a_h5_1 a_x05_0 a_x05_1 a_x05_2
    refine (Cl.same_law W6 _ _ l l true (by simp) o_g6.out.sl (HS1.out.later E6.out) (by omega) (by omega)).mono ?_
    rintro e W7 ⟨rfl, h7, _⟩
    have b7 : Below W6.heap.size W6 W7 := h7 _
    clear h7
    have z7 : W6.heap.size ≤ W7.heap.size := b7.size
    have B7 : Hid (Below w.heap.size w W7) := B6.out.trans (b7.mono B6.out.size)
    have r_l7 : Hid (W7.heap[W1.heap.size]? = some (.cells #[.slice ao1 l.length cap1, .int .i64 hd.n, .string hd.r] 28 (0, 0))) := rowKeep r_l6.out b7
    have r_h7 : Hid (W7.heap[W1.heap.size + 1]? = some (.cells #[.int .i64 h.n, .string h.r] 26 (0, 0))) := rowKeep r_h6.out b7
    have r_x07 : Hid (W7.heap[W3.heap.size]? = some (.cells #[.slice ao_g L_g cap_g, .int .i64 hd.n, .string hd.r] 28 (0, 0))) := rowKeep r_x06.out b7
    have o_g7 : Hid (Own W7 (W2.heap.size) (W3.heap.size) 9 (.slice ao_g L_g cap_g) (ss l)) := Own.later o_g6.out b7 (by omega)
    have c_l7_0 : W7.cell? ⟨W1.heap.size, 0, none⟩ = some (.slice ao1 l.length cap1) := row_at r_l7.out 0
    have c_l7_1 : W7.cell? ⟨W1.heap.size, 1, none⟩ = some (.int .i64 hd.n) := row_at r_l7.out 1
    have c_l7_2 : W7.cell? ⟨W1.heap.size, 2, none⟩ = some (.string hd.r) := row_at r_l7.out 2
    have c_h7_0 : W7.cell? ⟨W1.heap.size + 1, 0, none⟩ = some (.int .i64 h.n) := row_at r_h7.out 0
    have c_h7_1 : W7.cell? ⟨W1.heap.size + 1, 1, none⟩ = some (.string h.r) := row_at r_h7.out 1
    have c_x07_0 : W7.cell? ⟨W3.heap.size, 0, none⟩ = some (.slice ao_g L_g cap_g) := row_at r_x07.out 0
    have c_x07_1 : W7.cell? ⟨W3.heap.size, 1, none⟩ = some (.int .i64 hd.n) := row_at r_x07.out 1
    have c_x07_2 : W7.cell? ⟨W3.heap.size, 2, none⟩ = some (.string hd.r) := row_at r_x07.out 2
    clear r_l6 c_l6_0 c_l6_1 c_l6_2 r_h6 c_h6_0 c_h6_1 r_x06 c_x06_0 c_x06_1 c_x06_2 o_g6
    go_wp2
    go_ret
    exact ⟨rfl, B7.out⟩
  · simp only [hq] at q1 q2
    have n0 : ((0 : Int) != 0) = false := by simp
    have z8 : ∀ s ∈ l ++ x, s.size ≤ 1000 := size_app (fun s hs => by have := a2 s hs; omega) (fun s hs => by have := a8 s hs; omega)
    have lx : (l ++ x).length ≤ 20 := by rw [List.length_append]; omega
    have qok : ∀ W v', Below w.heap.size w W → Sl W v' (ss (l ++ x)) → _ := fun W v' hB hv => iOk W hB v' (l ++ x) h hv (by omega) z8 (by omega)
    simp only [hlo] at qok
    have qsi : ∀ W v', Below w.heap.size w W → Sh W v' t → _ := fun W v' hB hv => iSig W hB v' t h hv (by omega) (fun s hs => by have := a5 s hs; omega) (by omega)
    simp only [hsg] at qsi
    have qhd : ∀ W v', Below w.heap.size w W → Sl W v' (ss (l ++ x)) → _ := fun W v' hB hv => iHd W hB v' (l ++ x) hv (by omega) z8
    simp only [← hhe] at qhd
    have e1 : ∀ W, _ := fun W => eqlH W h h
    simp only [eqH_same] at e1
    clear hq iOk iSig iHd a2 a5 a8 z8 hlo hsg hhe
    have gx : (0 : Int) < (x.length : Int) := by omega
    have B1 : Hid (Below w.heap.size w W1) := b1
    have z1 : w.heap.size ≤ W1.heap.size := b1.size
    obtain ⟨W2, HW2, b2, y2, hS2, r_l2, r_h2⟩ : ∃ X, Hid (((W1.alloc (.cells #[.slice ao1 l.length cap1, .int .i64 hd.n, .string hd.r] 28)).alloc (.cells #[.int .i64 h.n, .string h.r] 26)) = X) ∧ Below W1.heap.size W1 X ∧ W1.heap.size + 2 ≤ X.heap.size ∧ Hid (X.heap.size = W1.heap.size + 1 + 1) ∧ Hid (X.heap[W1.heap.size]? = some (.cells #[.slice ao1 l.length cap1, .int .i64 hd.n, .string hd.r] 28 (0, 0))) ∧ Hid (X.heap[W1.heap.size + 1]? = some (.cells #[.int .i64 h.n, .string h.r] 26 (0, 0))) := ⟨_, rfl, (((Below.refl _ _).alloc (Nat.le_refl _) _).alloc (by simp) _), by simp, by show _ = _; simp, (by show _ = _; exact alloc_nth2_0 W1 _ _), (by show _ = _; exact alloc_nth2_1 W1 _ _)⟩
    have z2 : W1.heap.size ≤ W2.heap.size := b2.size
    have B2 : Hid (Below w.heap.size w W2) := B1.out.trans (b2.mono B1.out.size)
    have c_l2_0 : W2.cell? ⟨W1.heap.size, 0, none⟩ = some (.slice ao1 l.length cap1) := row_at r_l2.out 0
    have c_l2_1 : W2.cell? ⟨W1.heap.size, 1, none⟩ = some (.int .i64 hd.n) := row_at r_l2.out 1
    have c_l2_2 : W2.cell? ⟨W1.heap.size, 2, none⟩ = some (.string hd.r) := row_at r_l2.out 2
    have c_h2_0 : W2.cell? ⟨W1.heap.size + 1, 0, none⟩ = some (.int .i64 h.n) := row_at r_h2.out 0
    have c_h2_1 : W2.cell? ⟨W1.heap.size + 1, 1, none⟩ = some (.string h.r) := row_at r_h2.out 1
    go_wp2_with fail
    rw [HW2.out]
    refine (q2 W2 _ _ _ B2.out (HS1.out.later b2) (HT1.out.later b2) (HX1.out.later b2)).mono ?_
    rintro e W3 ⟨v_g, rfl, o_g3, b3⟩
    obtain ⟨ao_g, L_g, cap_g, rfl, hL_g, hM_g⟩ := o_g3.form
    have o_g3 : Hid (Own W3 W2.heap.size W3.heap.size 9 (.slice ao_g L_g cap_g) (ss (l ++ x))) := o_g3
    clear hL_g hM_g
    have z3 : W2.heap.size ≤ W3.heap.size := b3.size
    have B3 : Hid (Below w.heap.size w W3) := B2.out.trans (b3.mono B2.out.size)
    have r_l3 : Hid (W3.heap[W1.heap.size]? = some (.cells #[.slice ao1 l.length cap1, .int .i64 hd.n, .string hd.r] 28 (0, 0))) := rowKeep r_l2.out b3
    have r_h3 : Hid (W3.heap[W1.heap.size + 1]? = some (.cells #[.int .i64 h.n, .string h.r] 26 (0, 0))) := rowKeep r_h2.out b3
    have c_l3_0 : W3.cell? ⟨W1.heap.size, 0, none⟩ = some (.slice ao1 l.length cap1) := row_at r_l3.out 0
    have c_l3_1 : W3.cell? ⟨W1.heap.size, 1, none⟩ = some (.int .i64 hd.n) := row_at r_l3.out 1
    have c_l3_2 : W3.cell? ⟨W1.heap.size, 2, none⟩ = some (.string hd.r) := row_at r_l3.out 2
    have c_h3_0 : W3.cell? ⟨W1.heap.size + 1, 0, none⟩ = some (.int .i64 h.n) := row_at r_h3.out 0
    have c_h3_1 : W3.cell? ⟨W1.heap.size + 1, 1, none⟩ = some (.string h.r) := row_at r_h3.out 1
    clear r_l2 c_l2_0 c_l2_1 c_l2_2 r_h2 c_h2_0 c_h2_1
    have a_l3_0 : ∀ o, (W3.alloc o).cell? ⟨W1.heap.size, 0, none⟩ = some (.slice ao1 l.length cap1) := fun o => keepR c_l3_0 ((Below.refl _ _).alloc (Nat.le_refl _) o)
    have a_l3_1 : ∀ o, (W3.alloc o).cell? ⟨W1.heap.size, 1, none⟩ = some (.int .i64 hd.n) := fun o => keepR c_l3_1 ((Below.refl _ _).alloc (Nat.le_refl _) o)
    have a_l3_2 : ∀ o, (W3.alloc o).cell? ⟨W1.heap.size, 2, none⟩ = some (.string hd.r) := fun o => keepR c_l3_2 ((Below.refl _ _).alloc (Nat.le_refl _) o)
    have a_h3_0 : ∀ o, (W3.alloc o).cell? ⟨W1.heap.size + 1, 0, none⟩ = some (.int .i64 h.n) := fun o => keepR c_h3_0 ((Below.refl _ _).alloc (Nat.le_refl _) o)
    have a_h3_1 : ∀ o, (W3.alloc o).cell? ⟨W1.heap.size + 1, 1, none⟩ = some (.string h.r) := fun o => keepR c_h3_1 ((Below.refl _ _).alloc (Nat.le_refl _) o)
    obtain ⟨W4, HW4, b4, y4, hS4, r_x04⟩ : ∃ X, Hid ((W3.alloc (.cells #[.slice ao_g L_g cap_g, .int .i64 h.n, .string h.r] 28)) = X) ∧ Below W3.heap.size W3 X ∧ W3.heap.size + 1 ≤ X.heap.size ∧ Hid (X.heap.size = W3.heap.size + 1) ∧ Hid (X.heap[W3.heap.size]? = some (.cells #[.slice ao_g L_g cap_g, .int .i64 h.n, .string h.r] 28 (0, 0))) := ⟨_, rfl, ((Below.refl _ _).alloc (Nat.le_refl _) _), by simp, by show _ = _; simp, (by show _ = _; exact alloc_nth1_0 W3 _)⟩
    have z4 : W3.heap.size ≤ W4.heap.size := b4.size
    have B4 : Hid (Below w.heap.size w W4) := B3.out.trans (b4.mono B3.out.size)
    have r_l4 : Hid (W4.heap[W1.heap.size]? = some (.cells #[.slice ao1 l.length cap1, .int .i64 hd.n, .string hd.r] 28 (0, 0))) := rowKeep r_l3.out b4
    have r_h4 : Hid (W4.heap[W1.heap.size + 1]? = some (.cells #[.int .i64 h.n, .string h.r] 26 (0, 0))) := rowKeep r_h3.out b4
    have o_g4 : Hid (Own W4 (W2.heap.size) (W3.heap.size) 9 (.slice ao_g L_g cap_g) (ss (l ++ x))) := Own.later o_g3.out b4 (by omega)
    have c_l4_0 : W4.cell? ⟨W1.heap.size, 0, none⟩ = some (.slice ao1 l.length cap1) := row_at r_l4.out 0
    have c_l4_1 : W4.cell? ⟨W1.heap.size, 1, none⟩ = some (.int .i64 hd.n) := row_at r_l4.out 1
    have c_l4_2 : W4.cell? ⟨W1.heap.size, 2, none⟩ = some (.string hd.r) := row_at r_l4.out 2
    have c_h4_0 : W4.cell? ⟨W1.heap.size + 1, 0, none⟩ = some (.int .i64 h.n) := row_at r_h4.out 0
    have c_h4_1 : W4.cell? ⟨W1.heap.size + 1, 1, none⟩ = some (.string h.r) := row_at r_h4.out 1
    have c_x04_0 : W4.cell? ⟨W3.heap.size, 0, none⟩ = some (.slice ao_g L_g cap_g) := row_at r_x04.out 0
    have c_x04_1 : W4.cell? ⟨W3.heap.size, 1, none⟩ = some (.int .i64 h.n) := row_at r_x04.out 1
    have c_x04_2 : W4.cell? ⟨W3.heap.size, 2, none⟩ = some (.string h.r) := row_at r_x04.out 2
    clear r_l3 c_l3_0 c_l3_1 c_l3_2 r_h3 c_h3_0 c_h3_1 o_g3
    have E4 : Hid (Below W1.heap.size W1 W4) := ((((b2).trans (b3.mono (b2).size))).trans (b4.mono (((b2).trans (b3.mono (b2).size))).size))
    go_wp2_with fail
    rw [HW4.out]
    clear a_l3_0 a_l3_1 a_l3_2 a_h3_0 a_h3_1
    refine (q1 W4 _ _ _ (HS1.out.later E4.out) (HT1.out.later E4.out) (HX1.out.later E4.out)).mono ?_
    rintro e W5 ⟨v_s, rfl, o_s5, b5⟩
    obtain ⟨ao_s, L_s, cap_s, rfl, hL_s, hM_s⟩ := o_s5.form
    have o_s5 : Hid (Own W5 W4.heap.size W5.heap.size 9 (.slice ao_s L_s cap_s) (ss (l ++ x))) := o_s5
    clear hL_s hM_s
    have z5 : W4.heap.size ≤ W5.heap.size := b5.size
    have B5 : Hid (Below w.heap.size w W5) := B4.out.trans (b5.mono B4.out.size)
    have r_l5 : Hid (W5.heap[W1.heap.size]? = some (.cells #[.slice ao1 l.length cap1, .int .i64 hd.n, .string hd.r] 28 (0, 0))) := rowKeep r_l4.out b5
    have r_h5 : Hid (W5.heap[W1.heap.size + 1]? = some (.cells #[.int .i64 h.n, .string h.r] 26 (0, 0))) := rowKeep r_h4.out b5
    have r_x05 : Hid (W5.heap[W3.heap.size]? = some (.cells #[.slice ao_g L_g cap_g, .int .i64 h.n, .string h.r] 28 (0, 0))) := rowKeep r_x04.out b5
    have o_g5 : Hid (Own W5 (W2.heap.size) (W3.heap.size) 9 (.slice ao_g L_g cap_g) (ss (l ++ x))) := Own.later o_g4.out b5 (by omega)
    have c_l5_0 : W5.cell? ⟨W1.heap.size, 0, none⟩ = some (.slice ao1 l.length cap1) := row_at r_l5.out 0
    have c_l5_1 : W5.cell? ⟨W1.heap.size, 1, none⟩ = some (.int .i64 hd.n) := row_at r_l5.out 1
    have c_l5_2 : W5.cell? ⟨W1.heap.size, 2, none⟩ = some (.string hd.r) := row_at r_l5.out 2
    have c_h5_0 : W5.cell? ⟨W1.heap.size + 1, 0, none⟩ = some (.int .i64 h.n) := row_at r_h5.out 0
    have c_h5_1 : W5.cell? ⟨W1.heap.size + 1, 1, none⟩ = some (.string h.r) := row_at r_h5.out 1
    have c_x05_0 : W5.cell? ⟨W3.heap.size, 0, none⟩ = some (.slice ao_g L_g cap_g) := row_at r_x05.out 0
    have c_x05_1 : W5.cell? ⟨W3.heap.size, 1, none⟩ = some (.int .i64 h.n) := row_at r_x05.out 1
    have c_x05_2 : W5.cell? ⟨W3.heap.size, 2, none⟩ = some (.string h.r) := row_at r_x05.out 2
    clear r_l4 c_l4_0 c_l4_1 c_l4_2 r_h4 c_h4_0 c_h4_1 r_x04 c_x04_0 c_x04_1 c_x04_2 o_g4
    have a_l5_0 : ∀ o, (W5.alloc o).cell? ⟨W1.heap.size, 0, none⟩ = some (.slice ao1 l.length cap1) := fun o => keepR c_l5_0 ((Below.refl _ _).alloc (Nat.le_refl _) o)
    have a_l5_1 : ∀ o, (W5.alloc o).cell? ⟨W1.heap.size, 1, none⟩ = some (.int .i64 hd.n) := fun o => keepR c_l5_1 ((Below.refl _ _).alloc (Nat.le_refl _) o)
    have a_l5_2 : ∀ o, (W5.alloc o).cell? ⟨W1.heap.size, 2, none⟩ = some (.string hd.r) := fun o => keepR c_l5_2 ((Below.refl _ _).alloc (Nat.le_refl _) o)
    have a_h5_0 : ∀ o, (W5.alloc o).cell? ⟨W1.heap.size + 1, 0, none⟩ = some (.int .i64 h.n) := fun o => keepR c_h5_0 ((Below.refl _ _).alloc (Nat.le_refl _) o)
    have a_h5_1 : ∀ o, (W5.alloc o).cell? ⟨W1.heap.size + 1, 1, none⟩ = some (.string h.r) := fun o => keepR c_h5_1 ((Below.refl _ _).alloc (Nat.le_refl _) o)
    have a_x05_0 : ∀ o, (W5.alloc o).cell? ⟨W3.heap.size, 0, none⟩ = some (.slice ao_g L_g cap_g) := fun o => keepR c_x05_0 ((Below.refl _ _).alloc (Nat.le_refl _) o)
    have a_x05_1 : ∀ o, (W5.alloc o).cell? ⟨W3.heap.size, 1, none⟩ = some (.int .i64 h.n) := fun o => keepR c_x05_1 ((Below.refl _ _).alloc (Nat.le_refl _) o)
    have a_x05_2 : ∀ o, (W5.alloc o).cell? ⟨W3.heap.size, 2, none⟩ = some (.string h.r) := fun o => keepR c_x05_2 ((Below.refl _ _).alloc (Nat.le_refl _) o)
    obtain ⟨W6, HW6, b6, y6, hS6, r_s06⟩ : ∃ X, Hid ((W5.alloc (.cells #[.slice ao_s L_s cap_s, .int .i64 h.n, .string h.r] 28)) = X) ∧ Below W5.heap.size W5 X ∧ W5.heap.size + 1 ≤ X.heap.size ∧ Hid (X.heap.size = W5.heap.size + 1) ∧ Hid (X.heap[W5.heap.size]? = some (.cells #[.slice ao_s L_s cap_s, .int .i64 h.n, .string h.r] 28 (0, 0))) := ⟨_, rfl, ((Below.refl _ _).alloc (Nat.le_refl _) _), by simp, by show _ = _; simp, (by show _ = _; exact alloc_nth1_0 W5 _)⟩
    have z6 : W5.heap.size ≤ W6.heap.size := b6.size
    have B6 : Hid (Below w.heap.size w W6) := B5.out.trans (b6.mono B5.out.size)
    have r_l6 : Hid (W6.heap[W1.heap.size]? = some (.cells #[.slice ao1 l.length cap1, .int .i64 hd.n, .string hd.r] 28 (0, 0))) := rowKeep r_l5.out b6
    have r_h6 : Hid (W6.heap[W1.heap.size + 1]? = some (.cells #[.int .i64 h.n, .string h.r] 26 (0, 0))) := rowKeep r_h5.out b6
    have r_x06 : Hid (W6.heap[W3.heap.size]? = some (.cells #[.slice ao_g L_g cap_g, .int .i64 h.n, .string h.r] 28 (0, 0))) := rowKeep r_x05.out b6
    have o_g6 : Hid (Own W6 (W2.heap.size) (W3.heap.size) 9 (.slice ao_g L_g cap_g) (ss (l ++ x))) := Own.later o_g5.out b6 (by omega)
    have o_s6 : Hid (Own W6 (W4.heap.size) (W5.heap.size) 9 (.slice ao_s L_s cap_s) (ss (l ++ x))) := Own.later o_s5.out b6 (by omega)
    have c_l6_0 : W6.cell? ⟨W1.heap.size, 0, none⟩ = some (.slice ao1 l.length cap1) := row_at r_l6.out 0
    have c_l6_1 : W6.cell? ⟨W1.heap.size, 1, none⟩ = some (.int .i64 hd.n) := row_at r_l6.out 1
    have c_l6_2 : W6.cell? ⟨W1.heap.size, 2, none⟩ = some (.string hd.r) := row_at r_l6.out 2
    have c_h6_0 : W6.cell? ⟨W1.heap.size + 1, 0, none⟩ = some (.int .i64 h.n) := row_at r_h6.out 0
    have c_h6_1 : W6.cell? ⟨W1.heap.size + 1, 1, none⟩ = some (.string h.r) := row_at r_h6.out 1
    have c_x06_0 : W6.cell? ⟨W3.heap.size, 0, none⟩ = some (.slice ao_g L_g cap_g) := row_at r_x06.out 0
    have c_x06_1 : W6.cell? ⟨W3.heap.size, 1, none⟩ = some (.int .i64 h.n) := row_at r_x06.out 1
    have c_x06_2 : W6.cell? ⟨W3.heap.size, 2, none⟩ = some (.string h.r) := row_at r_x06.out 2
    have c_s06_0 : W6.cell? ⟨W5.heap.size, 0, none⟩ = some (.slice ao_s L_s cap_s) := row_at r_s06.out 0
    have c_s06_1 : W6.cell? ⟨W5.heap.size, 1, none⟩ = some (.int .i64 h.n) := row_at r_s06.out 1
    have c_s06_2 : W6.cell? ⟨W5.heap.size, 2, none⟩ = some (.string h.r) := row_at r_s06.out 2
    clear r_l5 c_l5_0 c_l5_1 c_l5_2 r_h5 c_h5_0 c_h5_1 r_x05 c_x05_0 c_x05_1 c_x05_2 o_g5 o_s5
    clear q1 q2
    clear r_s06 c_s06_0 c_s06_1 c_s06_2
    clear o_s6
    have E0 : Below W1.heap.size W1 W6 := ((((((((b2).trans (b3.mono (b2).size))).trans (b4.mono (((b2).trans (b3.mono (b2).size))).size))).trans (b5.mono (((((b2).trans (b3.mono (b2).size))).trans (b4.mono (((b2).trans (b3.mono (b2).size))).size))).size))).trans (b6.mono (((((((b2).trans (b3.mono (b2).size))).trans (b4.mono (((b2).trans (b3.mono (b2).size))).size))).trans (b5.mono (((((b2).trans (b3.mono (b2).size))).trans (b4.mono (((b2).trans (b3.mono (b2).size))).size))).size))).size))
    go_wp2_with fail
    rw [HW6.out]
    clear a_l5_0 a_l5_1 a_l5_2 a_h5_0 a_h5_1 a_x05_0 a_x05_1 a_x05_2
    refine wp_region_held_drew (S := fun w' => w'.cell? ⟨W3.heap.size, 0, none⟩ = some (.slice ao_g L_g cap_g) ∧ w'.cell? ⟨W3.heap.size, 1, none⟩ = some (.int .i64 h.n) ∧ w'.cell? ⟨W3.heap.size, 2, none⟩ = some (.string h.r) ∧ w'.cell? ⟨W1.heap.size, 0, none⟩ = some (.slice ao1 l.length cap1) ∧ w'.cell? ⟨W1.heap.size, 1, none⟩ = some (.int .i64 hd.n) ∧ w'.cell? ⟨W1.heap.size, 2, none⟩ = some (.string hd.r) ∧ w'.cell? ⟨W1.heap.size + 1, 0, none⟩ = some (.int .i64 h.n) ∧ w'.cell? ⟨W1.heap.size + 1, 1, none⟩ = some (.string h.r)) (by kernel_rfl) ⟨c_x06_0, c_x06_1, c_x06_2, c_l6_0, c_l6_1, c_l6_2, c_h6_0, c_h6_1⟩ (fun hHeld => ?_)
    (refine wpAnyH_take (i := 0) (v := ?v0x1) rfl (by kernel_rfl) (by kernel_rfl) (by kernel_rfl) (fun _ _ _ h => h) (Or.inl ⟨by rfl, ?hy0x1⟩) (by assumption) ?rest0x1; case hy0x1 => (intro w hSw; (try dsimp only at hSw); go_split_ands; go_simp; (try with_reducible rfl)))
    try simp only [Act.put, List.setIfInBounds_toArray, List.set_cons_zero, List.set_cons_succ, List.getElem_toArray, List.getElem_cons_zero, List.getElem_cons_succ]
    refine wpAnyH_ready (rs := [1]) (by kernel_rfl) (by simp) ?_
    refine AllReadyH.cons rfl (fun K hK => ?_) AllReadyH.nil
    go_simp
    refine (qok W6.drew _ (Below.drew B6.out) (Own.sl (w := W6.drew) o_g6.out)).mono ?_
    rintro e W7 ⟨rfl, b7⟩
    have b7 : Below W6.heap.size W6 W7 := (Below.drew (Below.refl _ _)).trans b7
    refine hK.out _ _ ⟨(keepR (W := W6) hHeld.1 b7), (keepR (W := W6) hHeld.2.1 b7), (keepR (W := W6) hHeld.2.2.1 b7), (keepR (W := W6) hHeld.2.2.2.1 b7), (keepR (W := W6) hHeld.2.2.2.2.1 b7), (keepR (W := W6) hHeld.2.2.2.2.2.1 b7), (keepR (W := W6) hHeld.2.2.2.2.2.2.1 b7), (keepR (W := W6) hHeld.2.2.2.2.2.2.2 b7)⟩ (fun hHeld => ?_)
    clear hK K
    try simp only [Act.put, List.setIfInBounds_toArray, List.set_cons_zero, List.set_cons_succ, List.getElem_toArray, List.getElem_cons_zero, List.getElem_cons_succ]
    have z7 : W6.heap.size ≤ W7.heap.size := b7.size
    have B7 : Hid (Below w.heap.size w W7) := B6.out.trans (b7.mono B6.out.size)
    have r_l7 : Hid (W7.heap[W1.heap.size]? = some (.cells #[.slice ao1 l.length cap1, .int .i64 hd.n, .string hd.r] 28 (0, 0))) := rowKeep r_l6.out b7
    have r_h7 : Hid (W7.heap[W1.heap.size + 1]? = some (.cells #[.int .i64 h.n, .string h.r] 26 (0, 0))) := rowKeep r_h6.out b7
    have r_x07 : Hid (W7.heap[W3.heap.size]? = some (.cells #[.slice ao_g L_g cap_g, .int .i64 h.n, .string h.r] 28 (0, 0))) := rowKeep r_x06.out b7
    have o_g7 : Hid (Own W7 (W2.heap.size) (W3.heap.size) 9 (.slice ao_g L_g cap_g) (ss (l ++ x))) := Own.later o_g6.out b7 (by omega)
    have c_l7_0 : W7.cell? ⟨W1.heap.size, 0, none⟩ = some (.slice ao1 l.length cap1) := row_at r_l7.out 0
    have c_l7_1 : W7.cell? ⟨W1.heap.size, 1, none⟩ = some (.int .i64 hd.n) := row_at r_l7.out 1
    have c_l7_2 : W7.cell? ⟨W1.heap.size, 2, none⟩ = some (.string hd.r) := row_at r_l7.out 2
    have c_h7_0 : W7.cell? ⟨W1.heap.size + 1, 0, none⟩ = some (.int .i64 h.n) := row_at r_h7.out 0
    have c_h7_1 : W7.cell? ⟨W1.heap.size + 1, 1, none⟩ = some (.string h.r) := row_at r_h7.out 1
    have c_x07_0 : W7.cell? ⟨W3.heap.size, 0, none⟩ = some (.slice ao_g L_g cap_g) := row_at r_x07.out 0
    have c_x07_1 : W7.cell? ⟨W3.heap.size, 1, none⟩ = some (.int .i64 h.n) := row_at r_x07.out 1
    have c_x07_2 : W7.cell? ⟨W3.heap.size, 2, none⟩ = some (.string h.r) := row_at r_x07.out 2
    clear r_l6 c_l6_0 c_l6_1 c_l6_2 r_h6 c_h6_0 c_h6_1 r_x06 c_x06_0 c_x06_1 c_x06_2 o_g6
    (refine wpAnyH_take (i := 2) (v := ?v2x2) rfl (by kernel_rfl) (by kernel_rfl) (by kernel_rfl) (fun _ _ _ h => h) (Or.inl ⟨by rfl, ?hy2x2⟩) (by assumption) ?rest2x2; case hy2x2 => (intro w hSw; (try dsimp only at hSw); go_split_ands; go_simp; (try with_reducible rfl)))
    try simp only [Act.put, List.setIfInBounds_toArray, List.set_cons_zero, List.set_cons_succ, List.getElem_toArray, List.getElem_cons_zero, List.getElem_cons_succ]
    (refine wpAnyH_take (i := 3) (v := ?v3x3) rfl (by kernel_rfl) (by kernel_rfl) (by kernel_rfl) (fun _ _ _ h => h) (Or.inl ⟨by rfl, ?hy3x3⟩) (by assumption) ?rest3x3; case hy3x3 => (intro w hSw; (try dsimp only at hSw); go_split_ands; go_simp; (try with_reducible rfl)))
    try simp only [Act.put, List.setIfInBounds_toArray, List.set_cons_zero, List.set_cons_succ, List.getElem_toArray, List.getElem_cons_zero, List.getElem_cons_succ]
    (refine wpAnyH_take (i := 4) (v := ?v4x4) rfl (by kernel_rfl) (by kernel_rfl) (by kernel_rfl) (fun _ _ _ h => h) (Or.inl ⟨by rfl, ?hy4x4⟩) (by assumption) ?rest4x4; case hy4x4 => (intro w hSw; (try dsimp only at hSw); go_split_ands; go_simp; (try with_reducible rfl)))
    try simp only [Act.put, List.setIfInBounds_toArray, List.set_cons_zero, List.set_cons_succ, List.getElem_toArray, List.getElem_cons_zero, List.getElem_cons_succ]
    (refine wpAnyH_take (i := 5) (v := ?v5x5) rfl (by kernel_rfl) (by kernel_rfl) (by kernel_rfl) (fun _ _ _ h => h) (Or.inl ⟨by rfl, ?hy5x5⟩) (by assumption) ?rest5x5; case hy5x5 => (intro w hSw; (try dsimp only at hSw); go_split_ands; go_simp; (try with_reducible rfl)))
    try simp only [Act.put, List.setIfInBounds_toArray, List.set_cons_zero, List.set_cons_succ, List.getElem_toArray, List.getElem_cons_zero, List.getElem_cons_succ]
    have E7 : Below W1.heap.size W1 W7 := E0.trans (b7.mono E0.size)
    refine wpAnyH_ready (rs := [6]) (by kernel_rfl) (by simp) ?_
    refine AllReadyH.cons rfl (fun K hK => ?_) AllReadyH.nil
    go_simp
    refine (qsi W7 _ B7.out (HT1.out.later E7)).mono ?_
    rintro e W8 ⟨rfl, b8⟩
    refine hK.out _ _ ⟨(keepR (W := W7) hHeld.1 b8), (keepR (W := W7) hHeld.2.1 b8), (keepR (W := W7) hHeld.2.2.1 b8), (keepR (W := W7) hHeld.2.2.2.1 b8), (keepR (W := W7) hHeld.2.2.2.2.1 b8), (keepR (W := W7) hHeld.2.2.2.2.2.1 b8), (keepR (W := W7) hHeld.2.2.2.2.2.2.1 b8), (keepR (W := W7) hHeld.2.2.2.2.2.2.2 b8)⟩ (fun hHeld => ?_)
    clear hK K
    try simp only [Act.put, List.setIfInBounds_toArray, List.set_cons_zero, List.set_cons_succ, List.getElem_toArray, List.getElem_cons_zero, List.getElem_cons_succ]
    have z8 : W7.heap.size ≤ W8.heap.size := b8.size
    have B8 : Hid (Below w.heap.size w W8) := B7.out.trans (b8.mono B7.out.size)
    have r_l8 : Hid (W8.heap[W1.heap.size]? = some (.cells #[.slice ao1 l.length cap1, .int .i64 hd.n, .string hd.r] 28 (0, 0))) := rowKeep r_l7.out b8
    have r_h8 : Hid (W8.heap[W1.heap.size + 1]? = some (.cells #[.int .i64 h.n, .string h.r] 26 (0, 0))) := rowKeep r_h7.out b8
    have r_x08 : Hid (W8.heap[W3.heap.size]? = some (.cells #[.slice ao_g L_g cap_g, .int .i64 h.n, .string h.r] 28 (0, 0))) := rowKeep r_x07.out b8
    have o_g8 : Hid (Own W8 (W2.heap.size) (W3.heap.size) 9 (.slice ao_g L_g cap_g) (ss (l ++ x))) := Own.later o_g7.out b8 (by omega)
    have c_l8_0 : W8.cell? ⟨W1.heap.size, 0, none⟩ = some (.slice ao1 l.length cap1) := row_at r_l8.out 0
    have c_l8_1 : W8.cell? ⟨W1.heap.size, 1, none⟩ = some (.int .i64 hd.n) := row_at r_l8.out 1
    have c_l8_2 : W8.cell? ⟨W1.heap.size, 2, none⟩ = some (.string hd.r) := row_at r_l8.out 2
    have c_h8_0 : W8.cell? ⟨W1.heap.size + 1, 0, none⟩ = some (.int .i64 h.n) := row_at r_h8.out 0
    have c_h8_1 : W8.cell? ⟨W1.heap.size + 1, 1, none⟩ = some (.string h.r) := row_at r_h8.out 1
    have c_x08_0 : W8.cell? ⟨W3.heap.size, 0, none⟩ = some (.slice ao_g L_g cap_g) := row_at r_x08.out 0
    have c_x08_1 : W8.cell? ⟨W3.heap.size, 1, none⟩ = some (.int .i64 h.n) := row_at r_x08.out 1
    have c_x08_2 : W8.cell? ⟨W3.heap.size, 2, none⟩ = some (.string h.r) := row_at r_x08.out 2
    clear r_l7 c_l7_0 c_l7_1 c_l7_2 r_h7 c_h7_0 c_h7_1 r_x07 c_x07_0 c_x07_1 c_x07_2 o_g7
    have E8 : Below W1.heap.size W1 W8 := E7.trans (b8.mono E7.size)
    (refine wpAnyH_take (i := 7) (v := ?v7x6) rfl (by kernel_rfl) (by kernel_rfl) (by kernel_rfl) (fun _ _ _ h => h) (Or.inl ⟨by rfl, ?hy7x6⟩) (by assumption) ?rest7x6; case hy7x6 => (intro w hSw; (try dsimp only at hSw); go_split_ands; go_simp; (try with_reducible rfl)))
    try simp only [Act.put, List.setIfInBounds_toArray, List.set_cons_zero, List.set_cons_succ, List.getElem_toArray, List.getElem_cons_zero, List.getElem_cons_succ]
    (refine wpAnyH_take (i := 8) (v := ?v8x7) rfl (by kernel_rfl) (by kernel_rfl) (by kernel_rfl) (fun _ _ _ h => h) (Or.inl ⟨by rfl, ?hy8x7⟩) (by assumption) ?rest8x7; case hy8x7 => (intro w hSw; (try dsimp only at hSw); go_split_ands; go_simp; (try with_reducible rfl)))
    try simp only [Act.put, List.setIfInBounds_toArray, List.set_cons_zero, List.set_cons_succ, List.getElem_toArray, List.getElem_cons_zero, List.getElem_cons_succ]
    (refine wpAnyH_take (i := 9) (v := ?v9x8) rfl (by kernel_rfl) (by kernel_rfl) (by kernel_rfl) (fun _ _ _ h => h) (Or.inl ⟨by rfl, ?hy9x8⟩) (by assumption) ?rest9x8; case hy9x8 => (intro w hSw; (try dsimp only at hSw); go_split_ands; go_simp; (try with_reducible rfl)))
    try simp only [Act.put, List.setIfInBounds_toArray, List.set_cons_zero, List.set_cons_succ, List.getElem_toArray, List.getElem_cons_zero, List.getElem_cons_succ]
    (refine wpAnyH_take (i := 10) (v := ?v10x9) rfl (by kernel_rfl) (by kernel_rfl) (by kernel_rfl) (fun _ _ _ h => h) (Or.inl ⟨by rfl, ?hy10x9⟩) (by assumption) ?rest10x9; case hy10x9 => (intro w hSw; (try dsimp only at hSw); go_split_ands; go_simp; (try with_reducible rfl)))
    try simp only [Act.put, List.setIfInBounds_toArray, List.set_cons_zero, List.set_cons_succ, List.getElem_toArray, List.getElem_cons_zero, List.getElem_cons_succ]
    (refine wpAnyH_take (i := 11) (v := ?v11x10) rfl (by kernel_rfl) (by kernel_rfl) (by kernel_rfl) (fun _ _ _ h => h) (Or.inl ⟨by rfl, ?hy11x10⟩) (by assumption) ?rest11x10; case hy11x10 => (intro w hSw; (try dsimp only at hSw); go_split_ands; go_simp; (try with_reducible rfl)))
    try simp only [Act.put, List.setIfInBounds_toArray, List.set_cons_zero, List.set_cons_succ, List.getElem_toArray, List.getElem_cons_zero, List.getElem_cons_succ]
    (refine wpAnyH_take (i := 12) (v := ?v12x11) rfl (by kernel_rfl) (by kernel_rfl) (by kernel_rfl) (fun _ _ _ h => h) (Or.inl ⟨by rfl, ?hy12x11⟩) (by assumption) ?rest12x11; case hy12x11 => (intro w hSw; (try dsimp only at hSw); go_split_ands; go_simp; (try with_reducible rfl)))
    try simp only [Act.put, List.setIfInBounds_toArray, List.set_cons_zero, List.set_cons_succ, List.getElem_toArray, List.getElem_cons_zero, List.getElem_cons_succ]
    (refine wpAnyH_take (i := 13) (v := ?v13x12) rfl (by kernel_rfl) (by kernel_rfl) (by kernel_rfl) (fun _ _ _ h => h) (Or.inl ⟨by rfl, ?hy13x12⟩) (by assumption) ?rest13x12; case hy13x12 => (intro w hSw; (try dsimp only at hSw); go_split_ands; go_simp; (try with_reducible rfl)))
    try simp only [Act.put, List.setIfInBounds_toArray, List.set_cons_zero, List.set_cons_succ, List.getElem_toArray, List.getElem_cons_zero, List.getElem_cons_succ]
    (refine wpAnyH_take (i := 14) (v := ?v14x13) rfl (by kernel_rfl) (by kernel_rfl) (by kernel_rfl) (fun _ _ _ h => h) (Or.inl ⟨by rfl, ?hy14x13⟩) (by assumption) ?rest14x13; case hy14x13 => (intro w hSw; (try dsimp only at hSw); go_split_ands; go_simp; (try with_reducible rfl)))
    try simp only [Act.put, List.setIfInBounds_toArray, List.set_cons_zero, List.set_cons_succ, List.getElem_toArray, List.getElem_cons_zero, List.getElem_cons_succ]
    (refine wpAnyH_take (i := 15) (v := ?v15x14) rfl (by kernel_rfl) (by kernel_rfl) (by kernel_rfl) (fun _ _ _ h => h) (Or.inl ⟨by rfl, ?hy15x14⟩) (by assumption) ?rest15x14; case hy15x14 => (intro w hSw; (try dsimp only at hSw); go_split_ands; go_simp; (try with_reducible rfl)))
    try simp only [Act.put, List.setIfInBounds_toArray, List.set_cons_zero, List.set_cons_succ, List.getElem_toArray, List.getElem_cons_zero, List.getElem_cons_succ]
    (refine wpAnyH_take (i := 16) (v := ?v16x15) rfl (by kernel_rfl) (by kernel_rfl) (by kernel_rfl) (fun _ _ _ h => h) (Or.inl ⟨by rfl, ?hy16x15⟩) (by assumption) ?rest16x15; case hy16x15 => (intro w hSw; (try dsimp only at hSw); go_split_ands; go_simp; (try with_reducible rfl)))
    try simp only [Act.put, List.setIfInBounds_toArray, List.set_cons_zero, List.set_cons_succ, List.getElem_toArray, List.getElem_cons_zero, List.getElem_cons_succ]
    (refine wpAnyH_take (i := 18) (v := ?v18x16) rfl (by kernel_rfl) (by kernel_rfl) (by kernel_rfl) (fun _ _ _ h => h) (Or.inl ⟨by rfl, ?hy18x16⟩) (by assumption) ?rest18x16; case hy18x16 => (intro w hSw; (try dsimp only at hSw); go_split_ands; go_simp; (try with_reducible rfl)))
    try simp only [Act.put, List.setIfInBounds_toArray, List.set_cons_zero, List.set_cons_succ, List.getElem_toArray, List.getElem_cons_zero, List.getElem_cons_succ]
    refine wpAnyH_ready (rs := [17]) (by kernel_rfl) (by simp) ?_
    refine AllReadyH.cons rfl (fun K hK => ?_) AllReadyH.nil
    go_simp
    refine (qhd W8 _ B8.out o_g8.out.sl).mono ?_
    rintro e W9 ⟨rfl, b9⟩
    refine hK.out _ _ ⟨(keepR (W := W8) hHeld.1 b9), (keepR (W := W8) hHeld.2.1 b9), (keepR (W := W8) hHeld.2.2.1 b9), (keepR (W := W8) hHeld.2.2.2.1 b9), (keepR (W := W8) hHeld.2.2.2.2.1 b9), (keepR (W := W8) hHeld.2.2.2.2.2.1 b9), (keepR (W := W8) hHeld.2.2.2.2.2.2.1 b9), (keepR (W := W8) hHeld.2.2.2.2.2.2.2 b9)⟩ (fun hHeld => ?_)
    clear hK K
    try simp only [Act.put, List.setIfInBounds_toArray, List.set_cons_zero, List.set_cons_succ, List.getElem_toArray, List.getElem_cons_zero, List.getElem_cons_succ]
    have z9 : W8.heap.size ≤ W9.heap.size := b9.size
    have B9 : Hid (Below w.heap.size w W9) := B8.out.trans (b9.mono B8.out.size)
    have r_l9 : Hid (W9.heap[W1.heap.size]? = some (.cells #[.slice ao1 l.length cap1, .int .i64 hd.n, .string hd.r] 28 (0, 0))) := rowKeep r_l8.out b9
    have r_h9 : Hid (W9.heap[W1.heap.size + 1]? = some (.cells #[.int .i64 h.n, .string h.r] 26 (0, 0))) := rowKeep r_h8.out b9
    have r_x09 : Hid (W9.heap[W3.heap.size]? = some (.cells #[.slice ao_g L_g cap_g, .int .i64 h.n, .string h.r] 28 (0, 0))) := rowKeep r_x08.out b9
    have o_g9 : Hid (Own W9 (W2.heap.size) (W3.heap.size) 9 (.slice ao_g L_g cap_g) (ss (l ++ x))) := Own.later o_g8.out b9 (by omega)
    have c_l9_0 : W9.cell? ⟨W1.heap.size, 0, none⟩ = some (.slice ao1 l.length cap1) := row_at r_l9.out 0
    have c_l9_1 : W9.cell? ⟨W1.heap.size, 1, none⟩ = some (.int .i64 hd.n) := row_at r_l9.out 1
    have c_l9_2 : W9.cell? ⟨W1.heap.size, 2, none⟩ = some (.string hd.r) := row_at r_l9.out 2
    have c_h9_0 : W9.cell? ⟨W1.heap.size + 1, 0, none⟩ = some (.int .i64 h.n) := row_at r_h9.out 0
    have c_h9_1 : W9.cell? ⟨W1.heap.size + 1, 1, none⟩ = some (.string h.r) := row_at r_h9.out 1
    have c_x09_0 : W9.cell? ⟨W3.heap.size, 0, none⟩ = some (.slice ao_g L_g cap_g) := row_at r_x09.out 0
    have c_x09_1 : W9.cell? ⟨W3.heap.size, 1, none⟩ = some (.int .i64 h.n) := row_at r_x09.out 1
    have c_x09_2 : W9.cell? ⟨W3.heap.size, 2, none⟩ = some (.string h.r) := row_at r_x09.out 2
    clear r_l8 c_l8_0 c_l8_1 c_l8_2 r_h8 c_h8_0 c_h8_1 r_x08 c_x08_0 c_x08_1 c_x08_2 o_g8
    have E9 : Below W1.heap.size W1 W9 := E8.trans (b9.mono E8.size)
    (refine wpAnyH_take (i := 19) (v := ?v19x17) rfl (by kernel_rfl) (by kernel_rfl) (by kernel_rfl) (fun _ _ _ h => h) (Or.inl ⟨by rfl, ?hy19x17⟩) (by assumption) ?rest19x17; case hy19x17 => (intro w hSw; (try dsimp only at hSw); go_split_ands; go_simp; (try with_reducible rfl)))
    try simp only [Act.put, List.setIfInBounds_toArray, List.set_cons_zero, List.set_cons_succ, List.getElem_toArray, List.getElem_cons_zero, List.getElem_cons_succ]
    (refine wpAnyH_take (i := 20) (v := ?v20x18) rfl (by kernel_rfl) (by kernel_rfl) (by kernel_rfl) (fun _ _ _ h => h) (Or.inl ⟨by rfl, ?hy20x18⟩) (by assumption) ?rest20x18; case hy20x18 => (intro w hSw; (try dsimp only at hSw); go_split_ands; go_simp; (try with_reducible rfl)))
    try simp only [Act.put, List.setIfInBounds_toArray, List.set_cons_zero, List.set_cons_succ, List.getElem_toArray, List.getElem_cons_zero, List.getElem_cons_succ]
    (refine wpAnyH_take (i := 21) (v := ?v21x19) rfl (by kernel_rfl) (by kernel_rfl) (by kernel_rfl) (fun _ _ _ h => h) (Or.inl ⟨by rfl, ?hy21x19⟩) (by assumption) ?rest21x19; case hy21x19 => (intro w hSw; (try dsimp only at hSw); go_split_ands; go_simp; (try with_reducible rfl)))
    try simp only [Act.put, List.setIfInBounds_toArray, List.set_cons_zero, List.set_cons_succ, List.getElem_toArray, List.getElem_cons_zero, List.getElem_cons_succ]
    (refine wpAnyH_take (i := 22) (v := ?v22x20) rfl (by kernel_rfl) (by kernel_rfl) (by kernel_rfl) (fun _ _ _ h => h) (Or.inl ⟨by rfl, ?hy22x20⟩) (by assumption) ?rest22x20; case hy22x20 => (intro w hSw; (try dsimp only at hSw); go_split_ands; go_simp; (try with_reducible rfl)))
    try simp only [Act.put, List.setIfInBounds_toArray, List.set_cons_zero, List.set_cons_succ, List.getElem_toArray, List.getElem_cons_zero, List.getElem_cons_succ]
    (refine wpAnyH_take (i := 23) (v := ?v23x21) rfl (by kernel_rfl) (by kernel_rfl) (by kernel_rfl) (fun _ _ _ h => h) (Or.inl ⟨by rfl, ?hy23x21⟩) (by assumption) ?rest23x21; case hy23x21 => (intro w hSw; (try dsimp only at hSw); go_split_ands; go_simp; (try with_reducible rfl)))
    try simp only [Act.put, List.setIfInBounds_toArray, List.set_cons_zero, List.set_cons_succ, List.getElem_toArray, List.getElem_cons_zero, List.getElem_cons_succ]
    (refine wpAnyH_take (i := 25) (v := ?v25x22) rfl (by kernel_rfl) (by kernel_rfl) (by kernel_rfl) (fun _ _ _ h => h) (Or.inl ⟨by rfl, ?hy25x22⟩) (by assumption) ?rest25x22; case hy25x22 => (intro w hSw; (try dsimp only at hSw); go_split_ands; go_simp; (try with_reducible rfl)))
    try simp only [Act.put, List.setIfInBounds_toArray, List.set_cons_zero, List.set_cons_succ, List.getElem_toArray, List.getElem_cons_zero, List.getElem_cons_succ]
    (refine wpAnyH_take (i := 26) (v := ?v26x23) rfl (by kernel_rfl) (by kernel_rfl) (by kernel_rfl) (fun _ _ _ h => h) (Or.inl ⟨by rfl, ?hy26x23⟩) (by assumption) ?rest26x23; case hy26x23 => (intro w hSw; (try dsimp only at hSw); go_split_ands; go_simp; (try with_reducible rfl)))
    try simp only [Act.put, List.setIfInBounds_toArray, List.set_cons_zero, List.set_cons_succ, List.getElem_toArray, List.getElem_cons_zero, List.getElem_cons_succ]
    (refine wpAnyH_take (i := 28) (v := ?v28x24) rfl (by kernel_rfl) (by kernel_rfl) (by kernel_rfl) (fun _ _ _ h => h) (Or.inl ⟨by rfl, ?hy28x24⟩) (by assumption) ?rest28x24; case hy28x24 => (intro w hSw; (try dsimp only at hSw); go_split_ands; go_simp; (try with_reducible rfl)))
    try simp only [Act.put, List.setIfInBounds_toArray, List.set_cons_zero, List.set_cons_succ, List.getElem_toArray, List.getElem_cons_zero, List.getElem_cons_succ]
    refine wpAnyH_ready (rs := [24]) (by kernel_rfl) (by simp) ?_
    refine AllReadyH.cons rfl (fun K hK => ?_) AllReadyH.nil
    go_simp
    refine hK.out _ _ ⟨(keepR (W := W9) hHeld.1 ((Below.refl _ _).alloc (Nat.le_refl _) _)), (keepR (W := W9) hHeld.2.1 ((Below.refl _ _).alloc (Nat.le_refl _) _)), (keepR (W := W9) hHeld.2.2.1 ((Below.refl _ _).alloc (Nat.le_refl _) _)), (keepR (W := W9) hHeld.2.2.2.1 ((Below.refl _ _).alloc (Nat.le_refl _) _)), (keepR (W := W9) hHeld.2.2.2.2.1 ((Below.refl _ _).alloc (Nat.le_refl _) _)), (keepR (W := W9) hHeld.2.2.2.2.2.1 ((Below.refl _ _).alloc (Nat.le_refl _) _)), (keepR (W := W9) hHeld.2.2.2.2.2.2.1 ((Below.refl _ _).alloc (Nat.le_refl _) _)), (keepR (W := W9) hHeld.2.2.2.2.2.2.2 ((Below.refl _ _).alloc (Nat.le_refl _) _))⟩ (fun hHeld => ?_)
    clear hK K
    try simp only [Act.put, List.setIfInBounds_toArray, List.set_cons_zero, List.set_cons_succ, List.getElem_toArray, List.getElem_cons_zero, List.getElem_cons_succ]
    have lt_x0 : W3.heap.size < W9.heap.size := (Array.getElem?_eq_some_iff.1 r_x09.out).1
    have lt_l : W1.heap.size < W9.heap.size := (Array.getElem?_eq_some_iff.1 r_l9.out).1
    have lt_h : W1.heap.size + 1 < W9.heap.size := (Array.getElem?_eq_some_iff.1 r_h9.out).1
    have AL : Below W9.heap.size W9 (W9.alloc (.cells #[] 9)) := (Below.refl _ _).alloc (Nat.le_refl _) _
    have EA : Below W1.heap.size W1 (W9.alloc (.cells #[] 9)) := E9.trans (AL.mono E9.size)
    have c6_v27 : (ss []).length + (ss l).length ≤ maxLen := by rw [ss_len, ss_len]; unfold maxLen; (try simp only [List.length_nil]); omega
    have c7_v27 : ((ss []).length + (ss l).length) * 16 ≤ 140737488355328 := by rw [ss_len, ss_len]; (try simp only [List.length_nil]); omega
    refine wpAnyH_ready (rs := [27]) (by kernel_rfl) (by simp) ?_
    refine AllReadyH.cons rfl (fun K hK => ?_) AllReadyH.nil
    refine step_appW (by rfl) (.tmp 84) (.tmp 86) 24 (by rfl) 9 i0 (.string ⟨#[]⟩) 16 Tryd.underlying24 hi hz0 hz1 hz2 rfl W9.heap.size _ _ (by rfl) (emptyT W9 W9.heap.size (Nat.le_refl _)) _ (by rfl) (ss l) (HS1.out.later EA) (ss_one l) c6_v27 c7_v27 (by simp) ?_
    intro v27 w27 o27 b27
    refine hK.out _ _ ⟨((b27.cell (by show W3.heap.size < W9.heap.size; omega)).trans hHeld.1), ((b27.cell (by show W3.heap.size < W9.heap.size; omega)).trans hHeld.2.1), ((b27.cell (by show W3.heap.size < W9.heap.size; omega)).trans hHeld.2.2.1), ((b27.cell (by show W1.heap.size < W9.heap.size; omega)).trans hHeld.2.2.2.1), ((b27.cell (by show W1.heap.size < W9.heap.size; omega)).trans hHeld.2.2.2.2.1), ((b27.cell (by show W1.heap.size < W9.heap.size; omega)).trans hHeld.2.2.2.2.2.1), ((b27.cell (by show W1.heap.size + 1 < W9.heap.size; omega)).trans hHeld.2.2.2.2.2.2.1), ((b27.cell (by show W1.heap.size + 1 < W9.heap.size; omega)).trans hHeld.2.2.2.2.2.2.2)⟩ (fun hHeld => ?_)
    clear hK K
    try simp only [Act.put, List.setIfInBounds_toArray, List.set_cons_zero, List.set_cons_succ, List.getElem_toArray, List.getElem_cons_zero, List.getElem_cons_succ]
    have o27 : Own w27 W9.heap.size w27.heap.size 9 v27 (ss l) := o27
    have A27 : Below W9.heap.size W9 w27 := AL.trans b27
    have E27 : Below W1.heap.size W1 w27 := E9.trans (A27.mono E9.size)
    have z27 := A27.size
    have c6_v29 : (ss l).length + (ss x).length ≤ maxLen := by rw [ss_len, ss_len]; unfold maxLen; (try simp only [List.length_nil]); omega
    have c7_v29 : ((ss l).length + (ss x).length) * 16 ≤ 140737488355328 := by rw [ss_len, ss_len]; (try simp only [List.length_nil]); omega
    refine wpAnyH_ready (rs := [29]) (by kernel_rfl) (by simp) ?_
    refine AllReadyH.cons rfl (fun K hK => ?_) AllReadyH.nil
    refine step_appW (by rfl) (.tmp 87) (.tmp 88) 24 (by rfl) 9 i0 (.string ⟨#[]⟩) 16 Tryd.underlying24 hi hz0 hz1 hz2 rfl W9.heap.size _ _ (by rfl) o27 _ (by rfl) (ss x) (HX1.out.later E27) (ss_one x) c6_v29 c7_v29 (by omega) ?_
    intro v29 w29 o29 b29
    refine hK.out _ _ ⟨((b29.cell (by show W3.heap.size < W9.heap.size; omega)).trans hHeld.1), ((b29.cell (by show W3.heap.size < W9.heap.size; omega)).trans hHeld.2.1), ((b29.cell (by show W3.heap.size < W9.heap.size; omega)).trans hHeld.2.2.1), ((b29.cell (by show W1.heap.size < W9.heap.size; omega)).trans hHeld.2.2.2.1), ((b29.cell (by show W1.heap.size < W9.heap.size; omega)).trans hHeld.2.2.2.2.1), ((b29.cell (by show W1.heap.size < W9.heap.size; omega)).trans hHeld.2.2.2.2.2.1), ((b29.cell (by show W1.heap.size + 1 < W9.heap.size; omega)).trans hHeld.2.2.2.2.2.2.1), ((b29.cell (by show W1.heap.size + 1 < W9.heap.size; omega)).trans hHeld.2.2.2.2.2.2.2)⟩ (fun hHeld => ?_)
    clear hK K
    try simp only [Act.put, List.setIfInBounds_toArray, List.set_cons_zero, List.set_cons_succ, List.getElem_toArray, List.getElem_cons_zero, List.getElem_cons_succ]
    have o29 : Own w29 W9.heap.size w29.heap.size 9 v29 (ss (l ++ x)) := by rw [ss_app]; exact o29
    have A29 : Below W9.heap.size W9 w29 := A27.trans b29
    have og29 := Own.later o_g9.out A29 (by omega)
    refine wpAnyH_ready (rs := [30]) (by kernel_rfl) (by simp) ?_
    refine AllReadyH.cons rfl (fun K hK => ?_) AllReadyH.nil
    go_simp
    refine (Cl.same_law w29 _ _ (l ++ x) (l ++ x) true (by simp) og29.sl o29.sl (by omega) (by omega)).mono ?_
    rintro e w30 ⟨rfl, h30, _⟩
    have b30 : Below w29.heap.size w29 w30 := h30 _
    refine hK.out _ _ ⟨(keepR (W := w29) hHeld.1 b30), (keepR (W := w29) hHeld.2.1 b30), (keepR (W := w29) hHeld.2.2.1 b30), (keepR (W := w29) hHeld.2.2.2.1 b30), (keepR (W := w29) hHeld.2.2.2.2.1 b30), (keepR (W := w29) hHeld.2.2.2.2.2.1 b30), (keepR (W := w29) hHeld.2.2.2.2.2.2.1 b30), (keepR (W := w29) hHeld.2.2.2.2.2.2.2 b30)⟩ (fun hHeld => ?_)
    clear hK K
    try simp only [Act.put, List.setIfInBounds_toArray, List.set_cons_zero, List.set_cons_succ, List.getElem_toArray, List.getElem_cons_zero, List.getElem_cons_succ]
    (refine wpAnyH_take (i := 31) (v := ?v31x25) rfl (by kernel_rfl) (by kernel_rfl) (by kernel_rfl) (fun _ _ _ h => h) (Or.inl ⟨by rfl, ?hy31x25⟩) (by assumption) ?rest31x25; case hy31x25 => (intro w hSw; (try dsimp only at hSw); go_split_ands; go_simp; (try with_reducible rfl)))
    try simp only [Act.put, List.setIfInBounds_toArray, List.set_cons_zero, List.set_cons_succ, List.getElem_toArray, List.getElem_cons_zero, List.getElem_cons_succ]
    (refine wpAnyH_take (i := 32) (v := ?v32x26) rfl (by kernel_rfl) (by kernel_rfl) (by kernel_rfl) (fun _ _ _ h => h) (Or.inl ⟨by rfl, ?hy32x26⟩) (by assumption) ?rest32x26; case hy32x26 => (intro w hSw; (try dsimp only at hSw); go_split_ands; go_simp; (try with_reducible rfl)))
    try simp only [Act.put, List.setIfInBounds_toArray, List.set_cons_zero, List.set_cons_succ, List.getElem_toArray, List.getElem_cons_zero, List.getElem_cons_succ]
    (refine wpAnyH_take (i := 33) (v := ?v33x27) rfl (by kernel_rfl) (by kernel_rfl) (by kernel_rfl) (fun _ _ _ h => h) (Or.inl ⟨by rfl, ?hy33x27⟩) (by assumption) ?rest33x27; case hy33x27 => (intro w hSw; (try dsimp only at hSw); go_split_ands; go_simp; (try with_reducible rfl)))
    try simp only [Act.put, List.setIfInBounds_toArray, List.set_cons_zero, List.set_cons_succ, List.getElem_toArray, List.getElem_cons_zero, List.getElem_cons_succ]
    (refine wpAnyH_take (i := 34) (v := ?v34x28) rfl (by kernel_rfl) (by kernel_rfl) (by kernel_rfl) (fun _ _ _ h => h) (Or.inl ⟨by rfl, ?hy34x28⟩) (by assumption) ?rest34x28; case hy34x28 => (intro w hSw; (try dsimp only at hSw); go_split_ands; go_simp; (try with_reducible rfl)))
    try simp only [Act.put, List.setIfInBounds_toArray, List.set_cons_zero, List.set_cons_succ, List.getElem_toArray, List.getElem_cons_zero, List.getElem_cons_succ]
    (refine wpAnyH_take (i := 35) (v := ?v35x29) rfl (by kernel_rfl) (by kernel_rfl) (by kernel_rfl) (fun _ _ _ h => h) (Or.inl ⟨by rfl, ?hy35x29⟩) (by assumption) ?rest35x29; case hy35x29 => (intro w hSw; (try dsimp only at hSw); go_split_ands; go_simp; (try with_reducible rfl)))
    try simp only [Act.put, List.setIfInBounds_toArray, List.set_cons_zero, List.set_cons_succ, List.getElem_toArray, List.getElem_cons_zero, List.getElem_cons_succ]
    (refine wpAnyH_take (i := 36) (v := ?v36x30) rfl (by kernel_rfl) (by kernel_rfl) (by kernel_rfl) (fun _ _ _ h => h) (Or.inl ⟨by rfl, ?hy36x30⟩) (by assumption) ?rest36x30; case hy36x30 => (intro w hSw; (try dsimp only at hSw); go_split_ands; go_simp; (try with_reducible rfl)))
    try simp only [Act.put, List.setIfInBounds_toArray, List.set_cons_zero, List.set_cons_succ, List.getElem_toArray, List.getElem_cons_zero, List.getElem_cons_succ]
    (refine wpAnyH_take (i := 37) (v := ?v37x31) rfl (by kernel_rfl) (by kernel_rfl) (by kernel_rfl) (fun _ _ _ h => h) (Or.inl ⟨by rfl, ?hy37x31⟩) (by assumption) ?rest37x31; case hy37x31 => (intro w hSw; (try dsimp only at hSw); go_split_ands; go_simp; (try with_reducible rfl)))
    try simp only [Act.put, List.setIfInBounds_toArray, List.set_cons_zero, List.set_cons_succ, List.getElem_toArray, List.getElem_cons_zero, List.getElem_cons_succ]
    refine wpAnyH_done (by kernel_rfl) ?_ _
    clear hHeld
    have FB : Below w.heap.size w w30 := (B9.out.trans (A29.mono B9.out.size)).trans (b30.mono (Nat.le_trans B9.out.size A29.size))
    go_wp2
    go_ret
    exact ⟨by show Ending.returned (Value.bool (decide (0 < x.length))) = _; rw [decide_eq_true (show 0 < x.length by omega)], FB⟩

end Go.Proofs.YtccnhhdcdamgmaaDoor.Lg
