/- Chapter 11: FnProved, over contracts of the landed functions. -/
import Derived.Test.YtccnhhdcdamgmaaDoorLgE
import Derived.Test.YtccnhhdcdamgmaaDoorLg3
import Derived.Test.YtccnhhdcdamgmaaDoorTrM
import Derived.Test.YtccnhhdcdamgmaaDoorTrX
import Derived.Test.YtccnhhdcdamgmaaDoorNth
namespace Go.Proofs.YtccnhhdcdamgmaaDoor.Lg
open Go.RowKit Go.Proofs.YtccnhhdcdamgmaaDoor.Mem Go.Proofs.YtccnhhdcdamgmaaDoor.Laws Go.Proofs.YtccnhhdcdamgmaaDoor.Bytes Go.Proofs.YtccnhhdcdamgmaaDoor.Sha Go.Proofs.YtccnhhdcdamgmaaDoor.Tr Go.Proofs.YtccnhhdcdamgmaaDoor.Draw Go.Proofs.YtccnhhdcdamgmaaDoor.He
set_option linter.unusedVariables false
set_option linter.unusedSimpArgs false

theorem headOf_yes {l : List ByteArray} (hl : l.length ≤ 200) : headOf l = ⟨(l.length : Int), root l⟩ := by unfold headOf; rw [if_pos hl]
theorem proveIn_len (l : List ByteArray) (h : Hd) (i : Int) : (proveIn l h i).1.length ≤ 1000 := by
  unfold proveIn
  split
  · rename_i hk
    have h1 := inPath_len l i
    unfold inPath at h1
    rw [if_pos ⟨(logOk_yes hk.1).1, hk.2⟩] at h1
    exact h1
  · simp
theorem proveGrown_len (l : List ByteArray) (h : Hd) (i : Int) : (proveGrown l h i).1.length ≤ 1000 := by
  unfold proveGrown
  split
  · rename_i hk
    have h1 := growPath_len l i
    unfold growPath at h1
    rw [if_pos ⟨(logOk_yes hk.1).1, hk.2⟩] at h1
    exact h1
  · simp
theorem proveIn_cases (l : List ByteArray) (h : Hd) (i : Int) : proveIn l h i = ([], false) ∨ ∃ (j : Nat) (s : ByteArray), i = (j : Int) ∧ l[j]? = some s ∧ l.length ≤ 200 ∧ h = ⟨(l.length : Int), root l⟩ ∧ proveIn l h i = (path l j, true) := by
  by_cases hk : logOk l h = true ∧ 0 ≤ i ∧ i ≤ (l.length : Int) - 1
  · obtain ⟨h1, h2⟩ := logOk_yes hk.1
    refine .inr ⟨i.toNat, l[i.toNat]'(by omega), by omega, by simp, h1, by rw [h2, headOf_yes h1], ?_⟩
    unfold proveIn
    rw [if_pos hk]
  · left
    unfold proveIn
    rw [if_neg hk]
theorem proveGrown_cases (l : List ByteArray) (h : Hd) (i : Int) : proveGrown l h i = ([], false) ∨ ∃ (j : Nat), i = (j : Int) ∧ 1 ≤ j ∧ j < l.length ∧ l.length ≤ 200 ∧ h = ⟨(l.length : Int), root l⟩ ∧ proveGrown l h i = (grow l j true, true) := by
  by_cases hk : logOk l h = true ∧ 1 ≤ i ∧ i ≤ (l.length : Int) - 1
  · obtain ⟨h1, h2⟩ := logOk_yes hk.1
    refine .inr ⟨i.toNat, by omega, by omega, by omega, h1, by rw [h2, headOf_yes h1], ?_⟩
    unfold proveGrown
    rw [if_pos hk]
  · left
    unfold proveGrown
    rw [if_neg hk]

set_option maxRecDepth 1000000 in
set_option maxHeartbeats 16000000 in
theorem proved11 (w : World) (v0 : Value) (xs0 : List Int) (h0 : Sl w v0 (bs xs0)) (y0 : Byt xs0) (m0 : xs0.length ≤ maxLen)
    (iPI : ∀ W, Below w.heap.size w W → ∀ (v' : Value) (l : List ByteArray) (h : Hd) (i : Int), Sl W v' (ss l) → l.length ≤ 1000 → (∀ s ∈ l, s.size ≤ 1000) → h.r.size ≤ 1000 → Calls Tryd.prog 18 #[.agg #[v', .int .i64 h.n, .string h.r], .int .i64 i] W fun e w' => ∃ v'', e = .returned (.tuple #[v'', .bool (proveIn l h i).2]) ∧ Own w' W.heap.size w'.heap.size 9 v'' (ss (proveIn l h i).1) ∧ Below W.heap.size W w')
    (iPG : ∀ W, Below w.heap.size w W → ∀ (v' : Value) (l : List ByteArray) (h : Hd) (i : Int), Sl W v' (ss l) → l.length ≤ 1000 → (∀ s ∈ l, s.size ≤ 1000) → h.r.size ≤ 1000 → Calls Tryd.prog 21 #[.agg #[v', .int .i64 h.n, .string h.r], .int .i64 i] W fun e w' => ∃ v'', e = .returned (.tuple #[v'', .bool (proveGrown l h i).2]) ∧ Own w' W.heap.size w'.heap.size 9 v'' (ss (proveGrown l h i).1) ∧ Below W.heap.size W w')
    (iCk : ∀ W, Below w.heap.size w W → ∀ (v' : Value) (s : ByteArray) (i n : Int) (p : List ByteArray) (r : ByteArray), Sl W v' (ss p) → p.length ≤ 1000 → s.size ≤ 1000 → r.size ≤ 1000 → (∀ t ∈ p, t.size ≤ 1000) → Calls Tryd.prog 23 #[.string s, .int .i64 i, .int .i64 n, v', .string r] W fun e w' => e = .returned (.bool (checkIn s i n p r)) ∧ Below W.heap.size W w')
    (iCg : ∀ W, Below w.heap.size w W → ∀ (v' : Value) (n m : Int) (a b : ByteArray) (p : List ByteArray), Sl W v' (ss p) → p.length ≤ 1000 → a.size ≤ 1000 → b.size ≤ 1000 → (∀ t ∈ p, t.size ≤ 1000) → Calls Tryd.prog 24 #[.int .i64 n, .int .i64 m, .string a, .string b, v'] W fun e w' => e = .returned (.bool (checkGrow n m a b p)) ∧ Below W.heap.size W w')
    (iRoot : ∀ W, Below w.heap.size w W → ∀ (v' : Value) (l : List ByteArray), Sl W v' (ss l) → l.length ≤ 1000 → (∀ s ∈ l, s.size ≤ 1000) → Calls Tryd.prog 25 #[v'] W fun e w' => e = .returned (.string (rootOf l)) ∧ Below W.heap.size W w') :
    Calls Tryd.prog 4 #[v0] w fun e w' => e = .returned (.bool true) ∧ Below w.heap.size w w' := by
  have hs := h0
  have hby := y0
  obtain ⟨ao0, cap0, rfl, -, -, -⟩ := h0
  rw [Mem.bs_len] at hs ⊢
  clear m0 y0
  by_cases hbig : 1048576 < xs0.length
  · have qb := big_yes w ao0 xs0.length cap0 hbig
    clear iPI iPG iCk iCg iRoot
    go_enter Tryd.func4, Tryd.ntmps4
    go_wp2_with fail
    refine qb.mono ?_
    rintro e w1 ⟨rfl, rfl⟩
    go_wp2
    go_ret
    exact ⟨rfl, Below.refl _ _⟩
  have qb := big_no w ao0 xs0.length cap0 hbig
  have qd := drawIn_any w _ xs0 hs hby (by omega)
  have qe : ∀ W, Below w.heap.size w W → _ := fun W hW => drawGrown_any W _ xs0 (hs.later hW) hby (by omega)
  have HSB : Hid (Sl w (.slice ao0 xs0.length cap0) (bs xs0)) := hs
  clear hbig hs hby
  go_enter Tryd.func4, Tryd.ntmps4
  go_wp2_with fail
  refine qb.mono ?_
  rintro e wx ⟨rfl, rfl⟩
  clear qb
  go_wp2_with fail
  refine qd.mono ?_
  rintro e W1 ⟨v1, l, h, i, rfl, hll, hls, hhr, hib, hsl, b1⟩
  clear qd
  obtain ⟨ao1, cap1, rfl, hcl⟩ := hsl.form
  simp only [ss_len] at *
  have HS1 : Hid (Sl W1 (.slice ao1 l.length cap1) (ss l)) := hsl
  have qPI : ∀ W v', Below w.heap.size w W → Sl W v' (ss l) → _ := fun W v' hB hv => iPI W hB v' l h i hv (by omega) (fun s hs => by have := hls s hs; omega) (by omega)
  have qSI : ∀ W v', Sl W v' (ss l) → _ := fun W v' hv => provein_spec W v' l h i hv (by omega) (fun s hs => by have := hls s hs; omega)
  rcases proveIn_cases l h i with hq | ⟨j, s, hy, hsj, hl2, hhq, hq⟩
  · have B1 : Hid (Below w.heap.size w W1) := b1
    have z1 : w.heap.size ≤ W1.heap.size := b1.size
    simp only [hq] at qPI qSI
    clear hq iCk hls
    clear iPI
    obtain ⟨W2, HW2, b2, y2, hS2, r_l2⟩ : ∃ X, Hid ((W1.alloc (.cells #[.slice ao1 l.length cap1, .int .i64 h.n, .string h.r] 28)) = X) ∧ Below W1.heap.size W1 X ∧ W1.heap.size + 1 ≤ X.heap.size ∧ Hid (X.heap.size = W1.heap.size + 1) ∧ Hid (X.heap[W1.heap.size]? = some (.cells #[.slice ao1 l.length cap1, .int .i64 h.n, .string h.r] 28 (0, 0))) := ⟨_, rfl, ((Below.refl _ _).alloc (Nat.le_refl _) _), by simp, by show _ = _; simp, (by show _ = _; exact alloc_nth1_0 W1 _)⟩
    have z2 : W1.heap.size ≤ W2.heap.size := b2.size
    have B2 : Hid (Below w.heap.size w W2) := B1.out.trans (b2.mono B1.out.size)
    have c_l2_0 : W2.cell? ⟨W1.heap.size, 0, none⟩ = some (.slice ao1 l.length cap1) := row_at r_l2.out 0
    have c_l2_1 : W2.cell? ⟨W1.heap.size, 1, none⟩ = some (.int .i64 h.n) := row_at r_l2.out 1
    have c_l2_2 : W2.cell? ⟨W1.heap.size, 2, none⟩ = some (.string h.r) := row_at r_l2.out 2
    go_wp2_with fail
    rw [HW2.out]
    refine (qPI W2 _ B2.out (HS1.out.later b2)).mono ?_
    rintro e W3 ⟨v_p, rfl, o_p3, b3⟩
    obtain ⟨ao_p, L_p, cap_p, rfl, hL_p, hM_p⟩ := o_p3.form
    have o_p3 : Hid (Own W3 W2.heap.size W3.heap.size 9 (.slice ao_p L_p cap_p) (ss [])) := o_p3
    clear hL_p hM_p
    have z3 : W2.heap.size ≤ W3.heap.size := b3.size
    have B3 : Hid (Below w.heap.size w W3) := B2.out.trans (b3.mono B2.out.size)
    have r_l3 : Hid (W3.heap[W1.heap.size]? = some (.cells #[.slice ao1 l.length cap1, .int .i64 h.n, .string h.r] 28 (0, 0))) := rowKeep r_l2.out b3
    have c_l3_0 : W3.cell? ⟨W1.heap.size, 0, none⟩ = some (.slice ao1 l.length cap1) := row_at r_l3.out 0
    have c_l3_1 : W3.cell? ⟨W1.heap.size, 1, none⟩ = some (.int .i64 h.n) := row_at r_l3.out 1
    have c_l3_2 : W3.cell? ⟨W1.heap.size, 2, none⟩ = some (.string h.r) := row_at r_l3.out 2
    clear r_l2 c_l2_0 c_l2_1 c_l2_2
    go_wp2_with fail
    refine (qSI W3 _ (HS1.out.later (b2.trans (b3.mono b2.size)))).mono ?_
    rintro e W4 ⟨v_p2, rfl, o_p24, b4⟩
    obtain ⟨ao_p2, L_p2, cap_p2, rfl, hL_p2, hM_p2⟩ := o_p24.form
    have o_p24 : Hid (Own W4 W3.heap.size W4.heap.size 9 (.slice ao_p2 L_p2 cap_p2) (ss [])) := o_p24
    clear hL_p2 hM_p2
    have z4 : W3.heap.size ≤ W4.heap.size := b4.size
    have B4 : Hid (Below w.heap.size w W4) := B3.out.trans (b4.mono B3.out.size)
    have r_l4 : Hid (W4.heap[W1.heap.size]? = some (.cells #[.slice ao1 l.length cap1, .int .i64 h.n, .string h.r] 28 (0, 0))) := rowKeep r_l3.out b4
    have o_p4 : Hid (Own W4 (W2.heap.size) (W3.heap.size) 9 (.slice ao_p L_p cap_p) (ss [])) := Own.later o_p3.out b4 (by omega)
    have c_l4_0 : W4.cell? ⟨W1.heap.size, 0, none⟩ = some (.slice ao1 l.length cap1) := row_at r_l4.out 0
    have c_l4_1 : W4.cell? ⟨W1.heap.size, 1, none⟩ = some (.int .i64 h.n) := row_at r_l4.out 1
    have c_l4_2 : W4.cell? ⟨W1.heap.size, 2, none⟩ = some (.string h.r) := row_at r_l4.out 2
    clear r_l3 c_l3_0 c_l3_1 c_l3_2 o_p3
    clear o_p24
    clear qPI qSI
    go_wp2_with fail
    refine (qe W4 B4.out).mono ?_
    rintro e W5 ⟨v9, m, hh, y, rfl, hml, hms, hmr, hyb, hml2, b5⟩
    obtain ⟨ao9, cap9, rfl, hc9⟩ := hml2.form
    simp only [ss_len] at *
    have HS9 : Hid (Sl W5 (.slice ao9 m.length cap9) (ss m)) := hml2
    clear hml2 qe
    have z5 : W4.heap.size ≤ W5.heap.size := b5.size
    have B5 : Hid (Below w.heap.size w W5) := B4.out.trans (b5.mono B4.out.size)
    have r_l5 : Hid (W5.heap[W1.heap.size]? = some (.cells #[.slice ao1 l.length cap1, .int .i64 h.n, .string h.r] 28 (0, 0))) := rowKeep r_l4.out b5
    have o_p5 : Hid (Own W5 (W2.heap.size) (W3.heap.size) 9 (.slice ao_p L_p cap_p) (ss [])) := Own.later o_p4.out b5 (by omega)
    have c_l5_0 : W5.cell? ⟨W1.heap.size, 0, none⟩ = some (.slice ao1 l.length cap1) := row_at r_l5.out 0
    have c_l5_1 : W5.cell? ⟨W1.heap.size, 1, none⟩ = some (.int .i64 h.n) := row_at r_l5.out 1
    have c_l5_2 : W5.cell? ⟨W1.heap.size, 2, none⟩ = some (.string h.r) := row_at r_l5.out 2
    clear r_l4 c_l4_0 c_l4_1 c_l4_2 o_p4
    have qPG : ∀ W v', Below w.heap.size w W → Sl W v' (ss m) → _ := fun W v' hB hv => iPG W hB v' m hh y hv (by omega) (fun s hs => by have := hms s hs; omega) (by omega)
    have qSG : ∀ W v', Sl W v' (ss m) → _ := fun W v' hv => provegrown_spec W v' m hh y hv (by omega) (fun s hs => by have := hms s hs; omega)
    clear iPG
    rcases proveGrown_cases m hh y with hq | ⟨n1, hy1, hn1, hn2, hn3, hhq, hq⟩
    · simp only [hq] at qPG qSG
      clear hq iCg iRoot hms
      have a_l5_0 : ∀ o, (W5.alloc o).cell? ⟨W1.heap.size, 0, none⟩ = some (.slice ao1 l.length cap1) := fun o => keepR c_l5_0 ((Below.refl _ _).alloc (Nat.le_refl _) o)
      have a_l5_1 : ∀ o, (W5.alloc o).cell? ⟨W1.heap.size, 1, none⟩ = some (.int .i64 h.n) := fun o => keepR c_l5_1 ((Below.refl _ _).alloc (Nat.le_refl _) o)
      have a_l5_2 : ∀ o, (W5.alloc o).cell? ⟨W1.heap.size, 2, none⟩ = some (.string h.r) := fun o => keepR c_l5_2 ((Below.refl _ _).alloc (Nat.le_refl _) o)
      obtain ⟨W6, HW6, b6, y6, hS6, r_gg6⟩ : ∃ X, Hid ((W5.alloc (.cells #[.slice ao9 m.length cap9, .int .i64 hh.n, .string hh.r] 28)) = X) ∧ Below W5.heap.size W5 X ∧ W5.heap.size + 1 ≤ X.heap.size ∧ Hid (X.heap.size = W5.heap.size + 1) ∧ Hid (X.heap[W5.heap.size]? = some (.cells #[.slice ao9 m.length cap9, .int .i64 hh.n, .string hh.r] 28 (0, 0))) := ⟨_, rfl, ((Below.refl _ _).alloc (Nat.le_refl _) _), by simp, by show _ = _; simp, (by show _ = _; exact alloc_nth1_0 W5 _)⟩
      have z6 : W5.heap.size ≤ W6.heap.size := b6.size
      have B6 : Hid (Below w.heap.size w W6) := B5.out.trans (b6.mono B5.out.size)
      have r_l6 : Hid (W6.heap[W1.heap.size]? = some (.cells #[.slice ao1 l.length cap1, .int .i64 h.n, .string h.r] 28 (0, 0))) := rowKeep r_l5.out b6
      have o_p6 : Hid (Own W6 (W2.heap.size) (W3.heap.size) 9 (.slice ao_p L_p cap_p) (ss [])) := Own.later o_p5.out b6 (by omega)
      have c_l6_0 : W6.cell? ⟨W1.heap.size, 0, none⟩ = some (.slice ao1 l.length cap1) := row_at r_l6.out 0
      have c_l6_1 : W6.cell? ⟨W1.heap.size, 1, none⟩ = some (.int .i64 h.n) := row_at r_l6.out 1
      have c_l6_2 : W6.cell? ⟨W1.heap.size, 2, none⟩ = some (.string h.r) := row_at r_l6.out 2
      have c_gg6_0 : W6.cell? ⟨W5.heap.size, 0, none⟩ = some (.slice ao9 m.length cap9) := row_at r_gg6.out 0
      have c_gg6_1 : W6.cell? ⟨W5.heap.size, 1, none⟩ = some (.int .i64 hh.n) := row_at r_gg6.out 1
      have c_gg6_2 : W6.cell? ⟨W5.heap.size, 2, none⟩ = some (.string hh.r) := row_at r_gg6.out 2
      clear r_l5 c_l5_0 c_l5_1 c_l5_2 o_p5
      go_wp2_with fail
      rw [HW6.out]
      clear a_l5_0 a_l5_1 a_l5_2
      refine (qPG W6 _ B6.out (HS9.out.later b6)).mono ?_
      rintro e W7 ⟨v_q, rfl, o_q7, b7⟩
      obtain ⟨ao_q, L_q, cap_q, rfl, hL_q, hM_q⟩ := o_q7.form
      have o_q7 : Hid (Own W7 W6.heap.size W7.heap.size 9 (.slice ao_q L_q cap_q) (ss [])) := o_q7
      clear hL_q hM_q
      have z7 : W6.heap.size ≤ W7.heap.size := b7.size
      have B7 : Hid (Below w.heap.size w W7) := B6.out.trans (b7.mono B6.out.size)
      have r_l7 : Hid (W7.heap[W1.heap.size]? = some (.cells #[.slice ao1 l.length cap1, .int .i64 h.n, .string h.r] 28 (0, 0))) := rowKeep r_l6.out b7
      have r_gg7 : Hid (W7.heap[W5.heap.size]? = some (.cells #[.slice ao9 m.length cap9, .int .i64 hh.n, .string hh.r] 28 (0, 0))) := rowKeep r_gg6.out b7
      have o_p7 : Hid (Own W7 (W2.heap.size) (W3.heap.size) 9 (.slice ao_p L_p cap_p) (ss [])) := Own.later o_p6.out b7 (by omega)
      have c_l7_0 : W7.cell? ⟨W1.heap.size, 0, none⟩ = some (.slice ao1 l.length cap1) := row_at r_l7.out 0
      have c_l7_1 : W7.cell? ⟨W1.heap.size, 1, none⟩ = some (.int .i64 h.n) := row_at r_l7.out 1
      have c_l7_2 : W7.cell? ⟨W1.heap.size, 2, none⟩ = some (.string h.r) := row_at r_l7.out 2
      have c_gg7_0 : W7.cell? ⟨W5.heap.size, 0, none⟩ = some (.slice ao9 m.length cap9) := row_at r_gg7.out 0
      have c_gg7_1 : W7.cell? ⟨W5.heap.size, 1, none⟩ = some (.int .i64 hh.n) := row_at r_gg7.out 1
      have c_gg7_2 : W7.cell? ⟨W5.heap.size, 2, none⟩ = some (.string hh.r) := row_at r_gg7.out 2
      clear r_l6 c_l6_0 c_l6_1 c_l6_2 r_gg6 c_gg6_0 c_gg6_1 c_gg6_2 o_p6
      go_wp2_with fail
      refine (qSG W7 _ (HS9.out.later (b6.trans (b7.mono b6.size)))).mono ?_
      rintro e W8 ⟨v_q2, rfl, o_q28, b8⟩
      obtain ⟨ao_q2, L_q2, cap_q2, rfl, hL_q2, hM_q2⟩ := o_q28.form
      have o_q28 : Hid (Own W8 W7.heap.size W8.heap.size 9 (.slice ao_q2 L_q2 cap_q2) (ss [])) := o_q28
      clear hL_q2 hM_q2
      have z8 : W7.heap.size ≤ W8.heap.size := b8.size
      have B8 : Hid (Below w.heap.size w W8) := B7.out.trans (b8.mono B7.out.size)
      have r_l8 : Hid (W8.heap[W1.heap.size]? = some (.cells #[.slice ao1 l.length cap1, .int .i64 h.n, .string h.r] 28 (0, 0))) := rowKeep r_l7.out b8
      have r_gg8 : Hid (W8.heap[W5.heap.size]? = some (.cells #[.slice ao9 m.length cap9, .int .i64 hh.n, .string hh.r] 28 (0, 0))) := rowKeep r_gg7.out b8
      have o_p8 : Hid (Own W8 (W2.heap.size) (W3.heap.size) 9 (.slice ao_p L_p cap_p) (ss [])) := Own.later o_p7.out b8 (by omega)
      have o_q8 : Hid (Own W8 (W6.heap.size) (W7.heap.size) 9 (.slice ao_q L_q cap_q) (ss [])) := Own.later o_q7.out b8 (by omega)
      have c_l8_0 : W8.cell? ⟨W1.heap.size, 0, none⟩ = some (.slice ao1 l.length cap1) := row_at r_l8.out 0
      have c_l8_1 : W8.cell? ⟨W1.heap.size, 1, none⟩ = some (.int .i64 h.n) := row_at r_l8.out 1
      have c_l8_2 : W8.cell? ⟨W1.heap.size, 2, none⟩ = some (.string h.r) := row_at r_l8.out 2
      have c_gg8_0 : W8.cell? ⟨W5.heap.size, 0, none⟩ = some (.slice ao9 m.length cap9) := row_at r_gg8.out 0
      have c_gg8_1 : W8.cell? ⟨W5.heap.size, 1, none⟩ = some (.int .i64 hh.n) := row_at r_gg8.out 1
      have c_gg8_2 : W8.cell? ⟨W5.heap.size, 2, none⟩ = some (.string hh.r) := row_at r_gg8.out 2
      clear r_l7 c_l7_0 c_l7_1 c_l7_2 r_gg7 c_gg7_0 c_gg7_1 c_gg7_2 o_p7 o_q7
      clear o_q28
      clear qPG qSG
      go_wp2_with fail
      refine wp_region_held_drew (S := fun w' => w'.cell? ⟨W1.heap.size, 0, none⟩ = some (.slice ao1 l.length cap1) ∧ w'.cell? ⟨W1.heap.size, 1, none⟩ = some (.int .i64 h.n) ∧ w'.cell? ⟨W1.heap.size, 2, none⟩ = some (.string h.r)) (by kernel_rfl) ⟨c_l8_0, c_l8_1, c_l8_2⟩ (fun hHeld => ?_)
      (refine wpAnyH_take (i := 0) (v := ?v0x1) rfl (by kernel_rfl) (by kernel_rfl) (by kernel_rfl) (fun _ _ _ h => h) (Or.inl ⟨by rfl, ?hy0x1⟩) (by assumption) ?rest0x1; case hy0x1 => (intro w hSw; (try dsimp only at hSw); go_split_ands; go_simp; (try with_reducible rfl)))
      try simp only [Act.put, List.setIfInBounds_toArray, List.set_cons_zero, List.set_cons_succ, List.getElem_toArray, List.getElem_cons_zero, List.getElem_cons_succ]
      (refine wpAnyH_take (i := 1) (v := ?v1x2) rfl (by kernel_rfl) (by kernel_rfl) (by kernel_rfl) (fun _ _ _ h => h) (Or.inl ⟨by rfl, ?hy1x2⟩) (by assumption) ?rest1x2; case hy1x2 => (intro w hSw; (try dsimp only at hSw); go_split_ands; go_simp; (try with_reducible rfl)))
      try simp only [Act.put, List.setIfInBounds_toArray, List.set_cons_zero, List.set_cons_succ, List.getElem_toArray, List.getElem_cons_zero, List.getElem_cons_succ]
      (refine wpAnyH_take (i := 2) (v := ?v2x3) rfl (by kernel_rfl) (by kernel_rfl) (by kernel_rfl) (fun _ _ _ h => h) (Or.inl ⟨by rfl, ?hy2x3⟩) (by assumption) ?rest2x3; case hy2x3 => (intro w hSw; (try dsimp only at hSw); go_split_ands; go_simp; (try with_reducible rfl)))
      try simp only [Act.put, List.setIfInBounds_toArray, List.set_cons_zero, List.set_cons_succ, List.getElem_toArray, List.getElem_cons_zero, List.getElem_cons_succ]
      (refine wpAnyH_take (i := 3) (v := ?v3x4) rfl (by kernel_rfl) (by kernel_rfl) (by kernel_rfl) (fun _ _ _ h => h) (Or.inl ⟨by rfl, ?hy3x4⟩) (by assumption) ?rest3x4; case hy3x4 => (intro w hSw; (try dsimp only at hSw); go_split_ands; go_simp; (try with_reducible rfl)))
      try simp only [Act.put, List.setIfInBounds_toArray, List.set_cons_zero, List.set_cons_succ, List.getElem_toArray, List.getElem_cons_zero, List.getElem_cons_succ]
      (refine wpAnyH_take (i := 4) (v := ?v4x5) rfl (by kernel_rfl) (by kernel_rfl) (by kernel_rfl) (fun _ _ _ h => h) (Or.inl ⟨by rfl, ?hy4x5⟩) (by assumption) ?rest4x5; case hy4x5 => (intro w hSw; (try dsimp only at hSw); go_split_ands; go_simp; (try with_reducible rfl)))
      try simp only [Act.put, List.setIfInBounds_toArray, List.set_cons_zero, List.set_cons_succ, List.getElem_toArray, List.getElem_cons_zero, List.getElem_cons_succ]
      (refine wpAnyH_take (i := 5) (v := ?v5x6) rfl (by kernel_rfl) (by kernel_rfl) (by kernel_rfl) (fun _ _ _ h => h) (Or.inl ⟨by rfl, ?hy5x6⟩) (by assumption) ?rest5x6; case hy5x6 => (intro w hSw; (try dsimp only at hSw); go_split_ands; go_simp; (try with_reducible rfl)))
      try simp only [Act.put, List.setIfInBounds_toArray, List.set_cons_zero, List.set_cons_succ, List.getElem_toArray, List.getElem_cons_zero, List.getElem_cons_succ]
      (refine wpAnyH_take (i := 6) (v := ?v6x7) rfl (by kernel_rfl) (by kernel_rfl) (by kernel_rfl) (fun _ _ _ h => h) (Or.inl ⟨by rfl, ?hy6x7⟩) (by assumption) ?rest6x7; case hy6x7 => (intro w hSw; (try dsimp only at hSw); go_split_ands; go_simp; (try with_reducible rfl)))
      try simp only [Act.put, List.setIfInBounds_toArray, List.set_cons_zero, List.set_cons_succ, List.getElem_toArray, List.getElem_cons_zero, List.getElem_cons_succ]
      (refine wpAnyH_take (i := 7) (v := ?v7x8) rfl (by kernel_rfl) (by kernel_rfl) (by kernel_rfl) (fun _ _ _ h => h) (Or.inl ⟨by rfl, ?hy7x8⟩) (by assumption) ?rest7x8; case hy7x8 => (intro w hSw; (try dsimp only at hSw); go_split_ands; go_simp; (try with_reducible rfl)))
      try simp only [Act.put, List.setIfInBounds_toArray, List.set_cons_zero, List.set_cons_succ, List.getElem_toArray, List.getElem_cons_zero, List.getElem_cons_succ]
      (refine wpAnyH_take (i := 8) (v := ?v8x9) rfl (by kernel_rfl) (by kernel_rfl) (by kernel_rfl) (fun _ _ _ h => h) (Or.inl ⟨by rfl, ?hy8x9⟩) (by assumption) ?rest8x9; case hy8x9 => (intro w hSw; (try dsimp only at hSw); go_split_ands; go_simp; (try with_reducible rfl)))
      try simp only [Act.put, List.setIfInBounds_toArray, List.set_cons_zero, List.set_cons_succ, List.getElem_toArray, List.getElem_cons_zero, List.getElem_cons_succ]
      (refine wpAnyH_take (i := 9) (v := ?v9x10) rfl (by kernel_rfl) (by kernel_rfl) (by kernel_rfl) (fun _ _ _ h => h) (Or.inl ⟨by rfl, ?hy9x10⟩) (by assumption) ?rest9x10; case hy9x10 => (intro w hSw; (try dsimp only at hSw); go_split_ands; go_simp; (try with_reducible rfl)))
      try simp only [Act.put, List.setIfInBounds_toArray, List.set_cons_zero, List.set_cons_succ, List.getElem_toArray, List.getElem_cons_zero, List.getElem_cons_succ]
      (refine wpAnyH_take (i := 10) (v := ?v10x11) rfl (by kernel_rfl) (by kernel_rfl) (by kernel_rfl) (fun _ _ _ h => h) (Or.inl ⟨by rfl, ?hy10x11⟩) (by assumption) ?rest10x11; case hy10x11 => (intro w hSw; (try dsimp only at hSw); go_split_ands; go_simp; (try with_reducible rfl)))
      try simp only [Act.put, List.setIfInBounds_toArray, List.set_cons_zero, List.set_cons_succ, List.getElem_toArray, List.getElem_cons_zero, List.getElem_cons_succ]
      (refine wpAnyH_take (i := 11) (v := undef) rfl (by kernel_rfl) (by kernel_rfl) (by kernel_rfl) (fun _ _ _ h => h) (Or.inr ⟨by rfl, rfl⟩) (by assumption) ?_)
      try simp only [Act.put, List.setIfInBounds_toArray, List.set_cons_zero, List.set_cons_succ, List.getElem_toArray, List.getElem_cons_zero, List.getElem_cons_succ]
      (refine wpAnyH_take (i := 12) (v := undef) rfl (by kernel_rfl) (by kernel_rfl) (by kernel_rfl) (fun _ _ _ h => h) (Or.inr ⟨by rfl, rfl⟩) (by assumption) ?_)
      try simp only [Act.put, List.setIfInBounds_toArray, List.set_cons_zero, List.set_cons_succ, List.getElem_toArray, List.getElem_cons_zero, List.getElem_cons_succ]
      (refine wpAnyH_take (i := 13) (v := undef) rfl (by kernel_rfl) (by kernel_rfl) (by kernel_rfl) (fun _ _ _ h => h) (Or.inr ⟨by rfl, rfl⟩) (by assumption) ?_)
      try simp only [Act.put, List.setIfInBounds_toArray, List.set_cons_zero, List.set_cons_succ, List.getElem_toArray, List.getElem_cons_zero, List.getElem_cons_succ]
      (refine wpAnyH_take (i := 14) (v := undef) rfl (by kernel_rfl) (by kernel_rfl) (by kernel_rfl) (fun _ _ _ h => h) (Or.inr ⟨by rfl, rfl⟩) (by assumption) ?_)
      try simp only [Act.put, List.setIfInBounds_toArray, List.set_cons_zero, List.set_cons_succ, List.getElem_toArray, List.getElem_cons_zero, List.getElem_cons_succ]
      (refine wpAnyH_take (i := 15) (v := undef) rfl (by kernel_rfl) (by kernel_rfl) (by kernel_rfl) (fun _ _ _ h => h) (Or.inr ⟨by rfl, rfl⟩) (by assumption) ?_)
      try simp only [Act.put, List.setIfInBounds_toArray, List.set_cons_zero, List.set_cons_succ, List.getElem_toArray, List.getElem_cons_zero, List.getElem_cons_succ]
      (refine wpAnyH_take (i := 16) (v := undef) rfl (by kernel_rfl) (by kernel_rfl) (by kernel_rfl) (fun _ _ _ h => h) (Or.inr ⟨by rfl, rfl⟩) (by assumption) ?_)
      try simp only [Act.put, List.setIfInBounds_toArray, List.set_cons_zero, List.set_cons_succ, List.getElem_toArray, List.getElem_cons_zero, List.getElem_cons_succ]
      (refine wpAnyH_take (i := 17) (v := undef) rfl (by kernel_rfl) (by kernel_rfl) (by kernel_rfl) (fun _ _ _ h => h) (Or.inr ⟨by rfl, rfl⟩) (by assumption) ?_)
      try simp only [Act.put, List.setIfInBounds_toArray, List.set_cons_zero, List.set_cons_succ, List.getElem_toArray, List.getElem_cons_zero, List.getElem_cons_succ]
      (refine wpAnyH_take (i := 18) (v := undef) rfl (by kernel_rfl) (by kernel_rfl) (by kernel_rfl) (fun _ _ _ h => h) (Or.inr ⟨by rfl, rfl⟩) (by assumption) ?_)
      try simp only [Act.put, List.setIfInBounds_toArray, List.set_cons_zero, List.set_cons_succ, List.getElem_toArray, List.getElem_cons_zero, List.getElem_cons_succ]
      (refine wpAnyH_take (i := 19) (v := undef) rfl (by kernel_rfl) (by kernel_rfl) (by kernel_rfl) (fun _ _ _ h => h) (Or.inr ⟨by rfl, rfl⟩) (by assumption) ?_)
      try simp only [Act.put, List.setIfInBounds_toArray, List.set_cons_zero, List.set_cons_succ, List.getElem_toArray, List.getElem_cons_zero, List.getElem_cons_succ]
      (refine wpAnyH_take (i := 20) (v := undef) rfl (by kernel_rfl) (by kernel_rfl) (by kernel_rfl) (fun _ _ _ h => h) (Or.inr ⟨by rfl, rfl⟩) (by assumption) ?_)
      try simp only [Act.put, List.setIfInBounds_toArray, List.set_cons_zero, List.set_cons_succ, List.getElem_toArray, List.getElem_cons_zero, List.getElem_cons_succ]
      (refine wpAnyH_take (i := 21) (v := undef) rfl (by kernel_rfl) (by kernel_rfl) (by kernel_rfl) (fun _ _ _ h => h) (Or.inr ⟨by rfl, rfl⟩) (by assumption) ?_)
      try simp only [Act.put, List.setIfInBounds_toArray, List.set_cons_zero, List.set_cons_succ, List.getElem_toArray, List.getElem_cons_zero, List.getElem_cons_succ]
      (refine wpAnyH_take (i := 22) (v := undef) rfl (by kernel_rfl) (by kernel_rfl) (by kernel_rfl) (fun _ _ _ h => h) (Or.inr ⟨by rfl, rfl⟩) (by assumption) ?_)
      try simp only [Act.put, List.setIfInBounds_toArray, List.set_cons_zero, List.set_cons_succ, List.getElem_toArray, List.getElem_cons_zero, List.getElem_cons_succ]
      (refine wpAnyH_take (i := 23) (v := undef) rfl (by kernel_rfl) (by kernel_rfl) (by kernel_rfl) (fun _ _ _ h => h) (Or.inr ⟨by rfl, rfl⟩) (by assumption) ?_)
      try simp only [Act.put, List.setIfInBounds_toArray, List.set_cons_zero, List.set_cons_succ, List.getElem_toArray, List.getElem_cons_zero, List.getElem_cons_succ]
      (refine wpAnyH_take (i := 24) (v := undef) rfl (by kernel_rfl) (by kernel_rfl) (by kernel_rfl) (fun _ _ _ h => h) (Or.inr ⟨by rfl, rfl⟩) (by assumption) ?_)
      try simp only [Act.put, List.setIfInBounds_toArray, List.set_cons_zero, List.set_cons_succ, List.getElem_toArray, List.getElem_cons_zero, List.getElem_cons_succ]
      (refine wpAnyH_take (i := 25) (v := undef) rfl (by kernel_rfl) (by kernel_rfl) (by kernel_rfl) (fun _ _ _ h => h) (Or.inr ⟨by rfl, rfl⟩) (by assumption) ?_)
      try simp only [Act.put, List.setIfInBounds_toArray, List.set_cons_zero, List.set_cons_succ, List.getElem_toArray, List.getElem_cons_zero, List.getElem_cons_succ]
      (refine wpAnyH_take (i := 26) (v := ?v26x27) rfl (by kernel_rfl) (by kernel_rfl) (by kernel_rfl) (fun _ _ _ h => h) (Or.inl ⟨by rfl, ?hy26x27⟩) (by assumption) ?rest26x27; case hy26x27 => (intro w hSw; (try dsimp only at hSw); go_split_ands; go_simp; (try with_reducible rfl)))
      try simp only [Act.put, List.setIfInBounds_toArray, List.set_cons_zero, List.set_cons_succ, List.getElem_toArray, List.getElem_cons_zero, List.getElem_cons_succ]
      (refine wpAnyH_take (i := 27) (v := ?v27x28) rfl (by kernel_rfl) (by kernel_rfl) (by kernel_rfl) (fun _ _ _ h => h) (Or.inl ⟨by rfl, ?hy27x28⟩) (by assumption) ?rest27x28; case hy27x28 => (intro w hSw; (try dsimp only at hSw); go_split_ands; go_simp; (try with_reducible rfl)))
      try simp only [Act.put, List.setIfInBounds_toArray, List.set_cons_zero, List.set_cons_succ, List.getElem_toArray, List.getElem_cons_zero, List.getElem_cons_succ]
      refine wpAnyH_done (by kernel_rfl) ?_ _
      clear hHeld
      obtain ⟨W9, hWd9⟩ : ∃ X, W8.drew = X := ⟨_, rfl⟩
      have b9 : Below W8.heap.size W8 W9 := by rw [← hWd9]; exact Below.drew (Below.refl _ _)
      rw [hWd9]
      clear hWd9
      have z9 : W8.heap.size ≤ W9.heap.size := b9.size
      have B9 : Hid (Below w.heap.size w W9) := B8.out.trans (b9.mono B8.out.size)
      have r_l9 : Hid (W9.heap[W1.heap.size]? = some (.cells #[.slice ao1 l.length cap1, .int .i64 h.n, .string h.r] 28 (0, 0))) := rowKeep r_l8.out b9
      have r_gg9 : Hid (W9.heap[W5.heap.size]? = some (.cells #[.slice ao9 m.length cap9, .int .i64 hh.n, .string hh.r] 28 (0, 0))) := rowKeep r_gg8.out b9
      have o_p9 : Hid (Own W9 (W2.heap.size) (W3.heap.size) 9 (.slice ao_p L_p cap_p) (ss [])) := Own.later o_p8.out b9 (by omega)
      have o_q9 : Hid (Own W9 (W6.heap.size) (W7.heap.size) 9 (.slice ao_q L_q cap_q) (ss [])) := Own.later o_q8.out b9 (by omega)
      have c_l9_0 : W9.cell? ⟨W1.heap.size, 0, none⟩ = some (.slice ao1 l.length cap1) := row_at r_l9.out 0
      have c_l9_1 : W9.cell? ⟨W1.heap.size, 1, none⟩ = some (.int .i64 h.n) := row_at r_l9.out 1
      have c_l9_2 : W9.cell? ⟨W1.heap.size, 2, none⟩ = some (.string h.r) := row_at r_l9.out 2
      have c_gg9_0 : W9.cell? ⟨W5.heap.size, 0, none⟩ = some (.slice ao9 m.length cap9) := row_at r_gg9.out 0
      have c_gg9_1 : W9.cell? ⟨W5.heap.size, 1, none⟩ = some (.int .i64 hh.n) := row_at r_gg9.out 1
      have c_gg9_2 : W9.cell? ⟨W5.heap.size, 2, none⟩ = some (.string hh.r) := row_at r_gg9.out 2
      clear r_l8 c_l8_0 c_l8_1 c_l8_2 r_gg8 c_gg8_0 c_gg8_1 c_gg8_2 o_p8 o_q8
      go_wp2_with fail
      refine wp_region_held_drew (S := fun w' => w'.cell? ⟨W5.heap.size, 0, none⟩ = some (.slice ao9 m.length cap9) ∧ w'.cell? ⟨W5.heap.size, 1, none⟩ = some (.int .i64 hh.n) ∧ w'.cell? ⟨W5.heap.size, 2, none⟩ = some (.string hh.r)) (by kernel_rfl) ⟨c_gg9_0, c_gg9_1, c_gg9_2⟩ (fun hHeld => ?_)
      (refine wpAnyH_take (i := 0) (v := ?v0x29) rfl (by kernel_rfl) (by kernel_rfl) (by kernel_rfl) (fun _ _ _ h => h) (Or.inl ⟨by rfl, ?hy0x29⟩) (by assumption) ?rest0x29; case hy0x29 => (intro w hSw; (try dsimp only at hSw); go_split_ands; go_simp; (try with_reducible rfl)))
      try simp only [Act.put, List.setIfInBounds_toArray, List.set_cons_zero, List.set_cons_succ, List.getElem_toArray, List.getElem_cons_zero, List.getElem_cons_succ]
      (refine wpAnyH_take (i := 1) (v := ?v1x30) rfl (by kernel_rfl) (by kernel_rfl) (by kernel_rfl) (fun _ _ _ h => h) (Or.inl ⟨by rfl, ?hy1x30⟩) (by assumption) ?rest1x30; case hy1x30 => (intro w hSw; (try dsimp only at hSw); go_split_ands; go_simp; (try with_reducible rfl)))
      try simp only [Act.put, List.setIfInBounds_toArray, List.set_cons_zero, List.set_cons_succ, List.getElem_toArray, List.getElem_cons_zero, List.getElem_cons_succ]
      (refine wpAnyH_take (i := 2) (v := ?v2x31) rfl (by kernel_rfl) (by kernel_rfl) (by kernel_rfl) (fun _ _ _ h => h) (Or.inl ⟨by rfl, ?hy2x31⟩) (by assumption) ?rest2x31; case hy2x31 => (intro w hSw; (try dsimp only at hSw); go_split_ands; go_simp; (try with_reducible rfl)))
      try simp only [Act.put, List.setIfInBounds_toArray, List.set_cons_zero, List.set_cons_succ, List.getElem_toArray, List.getElem_cons_zero, List.getElem_cons_succ]
      (refine wpAnyH_take (i := 3) (v := undef) rfl (by kernel_rfl) (by kernel_rfl) (by kernel_rfl) (fun _ _ _ h => h) (Or.inr ⟨by rfl, rfl⟩) (by assumption) ?_)
      try simp only [Act.put, List.setIfInBounds_toArray, List.set_cons_zero, List.set_cons_succ, List.getElem_toArray, List.getElem_cons_zero, List.getElem_cons_succ]
      (refine wpAnyH_take (i := 4) (v := undef) rfl (by kernel_rfl) (by kernel_rfl) (by kernel_rfl) (fun _ _ _ h => h) (Or.inr ⟨by rfl, rfl⟩) (by assumption) ?_)
      try simp only [Act.put, List.setIfInBounds_toArray, List.set_cons_zero, List.set_cons_succ, List.getElem_toArray, List.getElem_cons_zero, List.getElem_cons_succ]
      (refine wpAnyH_take (i := 5) (v := undef) rfl (by kernel_rfl) (by kernel_rfl) (by kernel_rfl) (fun _ _ _ h => h) (Or.inr ⟨by rfl, rfl⟩) (by assumption) ?_)
      try simp only [Act.put, List.setIfInBounds_toArray, List.set_cons_zero, List.set_cons_succ, List.getElem_toArray, List.getElem_cons_zero, List.getElem_cons_succ]
      (refine wpAnyH_take (i := 6) (v := undef) rfl (by kernel_rfl) (by kernel_rfl) (by kernel_rfl) (fun _ _ _ h => h) (Or.inr ⟨by rfl, rfl⟩) (by assumption) ?_)
      try simp only [Act.put, List.setIfInBounds_toArray, List.set_cons_zero, List.set_cons_succ, List.getElem_toArray, List.getElem_cons_zero, List.getElem_cons_succ]
      (refine wpAnyH_take (i := 7) (v := undef) rfl (by kernel_rfl) (by kernel_rfl) (by kernel_rfl) (fun _ _ _ h => h) (Or.inr ⟨by rfl, rfl⟩) (by assumption) ?_)
      try simp only [Act.put, List.setIfInBounds_toArray, List.set_cons_zero, List.set_cons_succ, List.getElem_toArray, List.getElem_cons_zero, List.getElem_cons_succ]
      (refine wpAnyH_take (i := 8) (v := undef) rfl (by kernel_rfl) (by kernel_rfl) (by kernel_rfl) (fun _ _ _ h => h) (Or.inr ⟨by rfl, rfl⟩) (by assumption) ?_)
      try simp only [Act.put, List.setIfInBounds_toArray, List.set_cons_zero, List.set_cons_succ, List.getElem_toArray, List.getElem_cons_zero, List.getElem_cons_succ]
      (refine wpAnyH_take (i := 9) (v := undef) rfl (by kernel_rfl) (by kernel_rfl) (by kernel_rfl) (fun _ _ _ h => h) (Or.inr ⟨by rfl, rfl⟩) (by assumption) ?_)
      try simp only [Act.put, List.setIfInBounds_toArray, List.set_cons_zero, List.set_cons_succ, List.getElem_toArray, List.getElem_cons_zero, List.getElem_cons_succ]
      (refine wpAnyH_take (i := 10) (v := undef) rfl (by kernel_rfl) (by kernel_rfl) (by kernel_rfl) (fun _ _ _ h => h) (Or.inr ⟨by rfl, rfl⟩) (by assumption) ?_)
      try simp only [Act.put, List.setIfInBounds_toArray, List.set_cons_zero, List.set_cons_succ, List.getElem_toArray, List.getElem_cons_zero, List.getElem_cons_succ]
      (refine wpAnyH_take (i := 11) (v := undef) rfl (by kernel_rfl) (by kernel_rfl) (by kernel_rfl) (fun _ _ _ h => h) (Or.inr ⟨by rfl, rfl⟩) (by assumption) ?_)
      try simp only [Act.put, List.setIfInBounds_toArray, List.set_cons_zero, List.set_cons_succ, List.getElem_toArray, List.getElem_cons_zero, List.getElem_cons_succ]
      (refine wpAnyH_take (i := 12) (v := undef) rfl (by kernel_rfl) (by kernel_rfl) (by kernel_rfl) (fun _ _ _ h => h) (Or.inr ⟨by rfl, rfl⟩) (by assumption) ?_)
      try simp only [Act.put, List.setIfInBounds_toArray, List.set_cons_zero, List.set_cons_succ, List.getElem_toArray, List.getElem_cons_zero, List.getElem_cons_succ]
      (refine wpAnyH_take (i := 13) (v := undef) rfl (by kernel_rfl) (by kernel_rfl) (by kernel_rfl) (fun _ _ _ h => h) (Or.inr ⟨by rfl, rfl⟩) (by assumption) ?_)
      try simp only [Act.put, List.setIfInBounds_toArray, List.set_cons_zero, List.set_cons_succ, List.getElem_toArray, List.getElem_cons_zero, List.getElem_cons_succ]
      (refine wpAnyH_take (i := 14) (v := undef) rfl (by kernel_rfl) (by kernel_rfl) (by kernel_rfl) (fun _ _ _ h => h) (Or.inr ⟨by rfl, rfl⟩) (by assumption) ?_)
      try simp only [Act.put, List.setIfInBounds_toArray, List.set_cons_zero, List.set_cons_succ, List.getElem_toArray, List.getElem_cons_zero, List.getElem_cons_succ]
      (refine wpAnyH_take (i := 15) (v := undef) rfl (by kernel_rfl) (by kernel_rfl) (by kernel_rfl) (fun _ _ _ h => h) (Or.inr ⟨by rfl, rfl⟩) (by assumption) ?_)
      try simp only [Act.put, List.setIfInBounds_toArray, List.set_cons_zero, List.set_cons_succ, List.getElem_toArray, List.getElem_cons_zero, List.getElem_cons_succ]
      (refine wpAnyH_take (i := 16) (v := undef) rfl (by kernel_rfl) (by kernel_rfl) (by kernel_rfl) (fun _ _ _ h => h) (Or.inr ⟨by rfl, rfl⟩) (by assumption) ?_)
      try simp only [Act.put, List.setIfInBounds_toArray, List.set_cons_zero, List.set_cons_succ, List.getElem_toArray, List.getElem_cons_zero, List.getElem_cons_succ]
      (refine wpAnyH_take (i := 17) (v := ?v17x46) rfl (by kernel_rfl) (by kernel_rfl) (by kernel_rfl) (fun _ _ _ h => h) (Or.inl ⟨by rfl, ?hy17x46⟩) (by assumption) ?rest17x46; case hy17x46 => (intro w hSw; (try dsimp only at hSw); go_split_ands; go_simp; (try with_reducible rfl)))
      try simp only [Act.put, List.setIfInBounds_toArray, List.set_cons_zero, List.set_cons_succ, List.getElem_toArray, List.getElem_cons_zero, List.getElem_cons_succ]
      (refine wpAnyH_take (i := 18) (v := ?v18x47) rfl (by kernel_rfl) (by kernel_rfl) (by kernel_rfl) (fun _ _ _ h => h) (Or.inl ⟨by rfl, ?hy18x47⟩) (by assumption) ?rest18x47; case hy18x47 => (intro w hSw; (try dsimp only at hSw); go_split_ands; go_simp; (try with_reducible rfl)))
      try simp only [Act.put, List.setIfInBounds_toArray, List.set_cons_zero, List.set_cons_succ, List.getElem_toArray, List.getElem_cons_zero, List.getElem_cons_succ]
      refine wpAnyH_done (by kernel_rfl) ?_ _
      clear hHeld
      go_wp2
      go_ret
      exact ⟨rfl, Below.drew B9.out⟩
    · subst hy1
      subst hhq
      simp only [hq] at qPG qSG
      have qr0 : ∀ W v1, Below w.heap.size w W → Sl W v1 (ss (m.take n1)) → _ := fun W v1 hB hv => iRoot W hB v1 (m.take n1) hv (by rw [List.length_take]; omega) (fun s hs => by have := hms s (List.mem_of_mem_take hs); omega)
      have hro : rootOf (m.take n1) = root (m.take n1) := by unfold rootOf; rw [if_pos (by rw [List.length_take]; omega)]
      simp only [hro] at qr0
      have qroot := qr0
      have qcg : ∀ W v1, Below w.heap.size w W → Sl W v1 (ss (grow m n1 true)) → _ := fun W v1 hB hv => iCg W hB v1 (n1 : Int) (m.length : Int) (root (m.take n1)) (root m) (grow m n1 true) hv (by have := proveGrown_len m ⟨(m.length : Int), root m⟩ (n1 : Int); rw [hq] at this; exact this) (by rw [root_size]; omega) (by rw [root_size]; omega) (fun t ht => by have := grow_sizes m n1 true t ht; omega)
      simp only [(grown_facts hn3 hn1 hn2).1] at qcg
      obtain ⟨GG, hGG⟩ : ∃ GG, grow m n1 true = GG := ⟨_, rfl⟩
      obtain ⟨RT, hRT⟩ : ∃ RT, root (m.take n1) = RT := ⟨_, rfl⟩
      simp only [hGG, hRT] at qPG qSG qroot qcg
      clear hGG hRT hq hro qr0 iCg iRoot hms
      have a_l5_0 : ∀ o, (W5.alloc o).cell? ⟨W1.heap.size, 0, none⟩ = some (.slice ao1 l.length cap1) := fun o => keepR c_l5_0 ((Below.refl _ _).alloc (Nat.le_refl _) o)
      have a_l5_1 : ∀ o, (W5.alloc o).cell? ⟨W1.heap.size, 1, none⟩ = some (.int .i64 h.n) := fun o => keepR c_l5_1 ((Below.refl _ _).alloc (Nat.le_refl _) o)
      have a_l5_2 : ∀ o, (W5.alloc o).cell? ⟨W1.heap.size, 2, none⟩ = some (.string h.r) := fun o => keepR c_l5_2 ((Below.refl _ _).alloc (Nat.le_refl _) o)
      obtain ⟨W6, HW6, b6, y6, hS6, r_gg6⟩ : ∃ X, Hid ((W5.alloc (.cells #[.slice ao9 m.length cap9, .int .i64 (m.length : Int), .string (root m)] 28)) = X) ∧ Below W5.heap.size W5 X ∧ W5.heap.size + 1 ≤ X.heap.size ∧ Hid (X.heap.size = W5.heap.size + 1) ∧ Hid (X.heap[W5.heap.size]? = some (.cells #[.slice ao9 m.length cap9, .int .i64 (m.length : Int), .string (root m)] 28 (0, 0))) := ⟨_, rfl, ((Below.refl _ _).alloc (Nat.le_refl _) _), by simp, by show _ = _; simp, (by show _ = _; exact alloc_nth1_0 W5 _)⟩
      have z6 : W5.heap.size ≤ W6.heap.size := b6.size
      have B6 : Hid (Below w.heap.size w W6) := B5.out.trans (b6.mono B5.out.size)
      have r_l6 : Hid (W6.heap[W1.heap.size]? = some (.cells #[.slice ao1 l.length cap1, .int .i64 h.n, .string h.r] 28 (0, 0))) := rowKeep r_l5.out b6
      have o_p6 : Hid (Own W6 (W2.heap.size) (W3.heap.size) 9 (.slice ao_p L_p cap_p) (ss [])) := Own.later o_p5.out b6 (by omega)
      have c_l6_0 : W6.cell? ⟨W1.heap.size, 0, none⟩ = some (.slice ao1 l.length cap1) := row_at r_l6.out 0
      have c_l6_1 : W6.cell? ⟨W1.heap.size, 1, none⟩ = some (.int .i64 h.n) := row_at r_l6.out 1
      have c_l6_2 : W6.cell? ⟨W1.heap.size, 2, none⟩ = some (.string h.r) := row_at r_l6.out 2
      have c_gg6_0 : W6.cell? ⟨W5.heap.size, 0, none⟩ = some (.slice ao9 m.length cap9) := row_at r_gg6.out 0
      have c_gg6_1 : W6.cell? ⟨W5.heap.size, 1, none⟩ = some (.int .i64 (m.length : Int)) := row_at r_gg6.out 1
      have c_gg6_2 : W6.cell? ⟨W5.heap.size, 2, none⟩ = some (.string (root m)) := row_at r_gg6.out 2
      clear r_l5 c_l5_0 c_l5_1 c_l5_2 o_p5
      go_wp2_with fail
      rw [HW6.out]
      clear a_l5_0 a_l5_1 a_l5_2
      refine (qPG W6 _ B6.out (HS9.out.later b6)).mono ?_
      rintro e W7 ⟨v_q, rfl, o_q7, b7⟩
      obtain ⟨ao_q, L_q, cap_q, rfl, hL_q, hM_q⟩ := o_q7.form
      have o_q7 : Hid (Own W7 W6.heap.size W7.heap.size 9 (.slice ao_q L_q cap_q) (ss GG)) := o_q7
      clear hL_q hM_q
      have z7 : W6.heap.size ≤ W7.heap.size := b7.size
      have B7 : Hid (Below w.heap.size w W7) := B6.out.trans (b7.mono B6.out.size)
      have r_l7 : Hid (W7.heap[W1.heap.size]? = some (.cells #[.slice ao1 l.length cap1, .int .i64 h.n, .string h.r] 28 (0, 0))) := rowKeep r_l6.out b7
      have r_gg7 : Hid (W7.heap[W5.heap.size]? = some (.cells #[.slice ao9 m.length cap9, .int .i64 (m.length : Int), .string (root m)] 28 (0, 0))) := rowKeep r_gg6.out b7
      have o_p7 : Hid (Own W7 (W2.heap.size) (W3.heap.size) 9 (.slice ao_p L_p cap_p) (ss [])) := Own.later o_p6.out b7 (by omega)
      have c_l7_0 : W7.cell? ⟨W1.heap.size, 0, none⟩ = some (.slice ao1 l.length cap1) := row_at r_l7.out 0
      have c_l7_1 : W7.cell? ⟨W1.heap.size, 1, none⟩ = some (.int .i64 h.n) := row_at r_l7.out 1
      have c_l7_2 : W7.cell? ⟨W1.heap.size, 2, none⟩ = some (.string h.r) := row_at r_l7.out 2
      have c_gg7_0 : W7.cell? ⟨W5.heap.size, 0, none⟩ = some (.slice ao9 m.length cap9) := row_at r_gg7.out 0
      have c_gg7_1 : W7.cell? ⟨W5.heap.size, 1, none⟩ = some (.int .i64 (m.length : Int)) := row_at r_gg7.out 1
      have c_gg7_2 : W7.cell? ⟨W5.heap.size, 2, none⟩ = some (.string (root m)) := row_at r_gg7.out 2
      clear r_l6 c_l6_0 c_l6_1 c_l6_2 r_gg6 c_gg6_0 c_gg6_1 c_gg6_2 o_p6
      go_wp2_with fail
      refine (qSG W7 _ (HS9.out.later (b6.trans (b7.mono b6.size)))).mono ?_
      rintro e W8 ⟨v_q2, rfl, o_q28, b8⟩
      obtain ⟨ao_q2, L_q2, cap_q2, rfl, hL_q2, hM_q2⟩ := o_q28.form
      have o_q28 : Hid (Own W8 W7.heap.size W8.heap.size 9 (.slice ao_q2 L_q2 cap_q2) (ss GG)) := o_q28
      clear hL_q2 hM_q2
      have z8 : W7.heap.size ≤ W8.heap.size := b8.size
      have B8 : Hid (Below w.heap.size w W8) := B7.out.trans (b8.mono B7.out.size)
      have r_l8 : Hid (W8.heap[W1.heap.size]? = some (.cells #[.slice ao1 l.length cap1, .int .i64 h.n, .string h.r] 28 (0, 0))) := rowKeep r_l7.out b8
      have r_gg8 : Hid (W8.heap[W5.heap.size]? = some (.cells #[.slice ao9 m.length cap9, .int .i64 (m.length : Int), .string (root m)] 28 (0, 0))) := rowKeep r_gg7.out b8
      have o_p8 : Hid (Own W8 (W2.heap.size) (W3.heap.size) 9 (.slice ao_p L_p cap_p) (ss [])) := Own.later o_p7.out b8 (by omega)
      have o_q8 : Hid (Own W8 (W6.heap.size) (W7.heap.size) 9 (.slice ao_q L_q cap_q) (ss GG)) := Own.later o_q7.out b8 (by omega)
      have c_l8_0 : W8.cell? ⟨W1.heap.size, 0, none⟩ = some (.slice ao1 l.length cap1) := row_at r_l8.out 0
      have c_l8_1 : W8.cell? ⟨W1.heap.size, 1, none⟩ = some (.int .i64 h.n) := row_at r_l8.out 1
      have c_l8_2 : W8.cell? ⟨W1.heap.size, 2, none⟩ = some (.string h.r) := row_at r_l8.out 2
      have c_gg8_0 : W8.cell? ⟨W5.heap.size, 0, none⟩ = some (.slice ao9 m.length cap9) := row_at r_gg8.out 0
      have c_gg8_1 : W8.cell? ⟨W5.heap.size, 1, none⟩ = some (.int .i64 (m.length : Int)) := row_at r_gg8.out 1
      have c_gg8_2 : W8.cell? ⟨W5.heap.size, 2, none⟩ = some (.string (root m)) := row_at r_gg8.out 2
      clear r_l7 c_l7_0 c_l7_1 c_l7_2 r_gg7 c_gg7_0 c_gg7_1 c_gg7_2 o_p7 o_q7
      clear o_q28
      clear qPG qSG
      have sfr : Hid (Sl W5 (.slice ao9 n1 cap9) (ss (m.take n1))) := by show Sl _ _ _; rw [← ss_take]; exact HS9.out.front n1 (by rw [ss_len]; omega)
      have g1 : (n1 : Int) ≤ (cap9 : Int) := by omega
      have g2 : (0 : Int) ≤ (n1 : Int) := by omega
      have sfr : Hid (∀ W, Below W5.heap.size W5 W → Sl W (.slice ao9 n1 cap9) (ss (m.take n1))) := fun W hW => sfr.out.later hW
      go_wp2_with fail
      refine wp_region_held_drew (S := fun w' => w'.cell? ⟨W1.heap.size, 0, none⟩ = some (.slice ao1 l.length cap1) ∧ w'.cell? ⟨W1.heap.size, 1, none⟩ = some (.int .i64 h.n) ∧ w'.cell? ⟨W1.heap.size, 2, none⟩ = some (.string h.r)) (by kernel_rfl) ⟨c_l8_0, c_l8_1, c_l8_2⟩ (fun hHeld => ?_)
      (refine wpAnyH_take (i := 0) (v := ?v0x48) rfl (by kernel_rfl) (by kernel_rfl) (by kernel_rfl) (fun _ _ _ h => h) (Or.inl ⟨by rfl, ?hy0x48⟩) (by assumption) ?rest0x48; case hy0x48 => (intro w hSw; (try dsimp only at hSw); go_split_ands; go_simp; (try with_reducible rfl)))
      try simp only [Act.put, List.setIfInBounds_toArray, List.set_cons_zero, List.set_cons_succ, List.getElem_toArray, List.getElem_cons_zero, List.getElem_cons_succ]
      (refine wpAnyH_take (i := 1) (v := ?v1x49) rfl (by kernel_rfl) (by kernel_rfl) (by kernel_rfl) (fun _ _ _ h => h) (Or.inl ⟨by rfl, ?hy1x49⟩) (by assumption) ?rest1x49; case hy1x49 => (intro w hSw; (try dsimp only at hSw); go_split_ands; go_simp; (try with_reducible rfl)))
      try simp only [Act.put, List.setIfInBounds_toArray, List.set_cons_zero, List.set_cons_succ, List.getElem_toArray, List.getElem_cons_zero, List.getElem_cons_succ]
      (refine wpAnyH_take (i := 2) (v := ?v2x50) rfl (by kernel_rfl) (by kernel_rfl) (by kernel_rfl) (fun _ _ _ h => h) (Or.inl ⟨by rfl, ?hy2x50⟩) (by assumption) ?rest2x50; case hy2x50 => (intro w hSw; (try dsimp only at hSw); go_split_ands; go_simp; (try with_reducible rfl)))
      try simp only [Act.put, List.setIfInBounds_toArray, List.set_cons_zero, List.set_cons_succ, List.getElem_toArray, List.getElem_cons_zero, List.getElem_cons_succ]
      (refine wpAnyH_take (i := 3) (v := ?v3x51) rfl (by kernel_rfl) (by kernel_rfl) (by kernel_rfl) (fun _ _ _ h => h) (Or.inl ⟨by rfl, ?hy3x51⟩) (by assumption) ?rest3x51; case hy3x51 => (intro w hSw; (try dsimp only at hSw); go_split_ands; go_simp; (try with_reducible rfl)))
      try simp only [Act.put, List.setIfInBounds_toArray, List.set_cons_zero, List.set_cons_succ, List.getElem_toArray, List.getElem_cons_zero, List.getElem_cons_succ]
      (refine wpAnyH_take (i := 4) (v := ?v4x52) rfl (by kernel_rfl) (by kernel_rfl) (by kernel_rfl) (fun _ _ _ h => h) (Or.inl ⟨by rfl, ?hy4x52⟩) (by assumption) ?rest4x52; case hy4x52 => (intro w hSw; (try dsimp only at hSw); go_split_ands; go_simp; (try with_reducible rfl)))
      try simp only [Act.put, List.setIfInBounds_toArray, List.set_cons_zero, List.set_cons_succ, List.getElem_toArray, List.getElem_cons_zero, List.getElem_cons_succ]
      (refine wpAnyH_take (i := 5) (v := ?v5x53) rfl (by kernel_rfl) (by kernel_rfl) (by kernel_rfl) (fun _ _ _ h => h) (Or.inl ⟨by rfl, ?hy5x53⟩) (by assumption) ?rest5x53; case hy5x53 => (intro w hSw; (try dsimp only at hSw); go_split_ands; go_simp; (try with_reducible rfl)))
      try simp only [Act.put, List.setIfInBounds_toArray, List.set_cons_zero, List.set_cons_succ, List.getElem_toArray, List.getElem_cons_zero, List.getElem_cons_succ]
      (refine wpAnyH_take (i := 6) (v := ?v6x54) rfl (by kernel_rfl) (by kernel_rfl) (by kernel_rfl) (fun _ _ _ h => h) (Or.inl ⟨by rfl, ?hy6x54⟩) (by assumption) ?rest6x54; case hy6x54 => (intro w hSw; (try dsimp only at hSw); go_split_ands; go_simp; (try with_reducible rfl)))
      try simp only [Act.put, List.setIfInBounds_toArray, List.set_cons_zero, List.set_cons_succ, List.getElem_toArray, List.getElem_cons_zero, List.getElem_cons_succ]
      (refine wpAnyH_take (i := 7) (v := ?v7x55) rfl (by kernel_rfl) (by kernel_rfl) (by kernel_rfl) (fun _ _ _ h => h) (Or.inl ⟨by rfl, ?hy7x55⟩) (by assumption) ?rest7x55; case hy7x55 => (intro w hSw; (try dsimp only at hSw); go_split_ands; go_simp; (try with_reducible rfl)))
      try simp only [Act.put, List.setIfInBounds_toArray, List.set_cons_zero, List.set_cons_succ, List.getElem_toArray, List.getElem_cons_zero, List.getElem_cons_succ]
      (refine wpAnyH_take (i := 8) (v := ?v8x56) rfl (by kernel_rfl) (by kernel_rfl) (by kernel_rfl) (fun _ _ _ h => h) (Or.inl ⟨by rfl, ?hy8x56⟩) (by assumption) ?rest8x56; case hy8x56 => (intro w hSw; (try dsimp only at hSw); go_split_ands; go_simp; (try with_reducible rfl)))
      try simp only [Act.put, List.setIfInBounds_toArray, List.set_cons_zero, List.set_cons_succ, List.getElem_toArray, List.getElem_cons_zero, List.getElem_cons_succ]
      (refine wpAnyH_take (i := 9) (v := ?v9x57) rfl (by kernel_rfl) (by kernel_rfl) (by kernel_rfl) (fun _ _ _ h => h) (Or.inl ⟨by rfl, ?hy9x57⟩) (by assumption) ?rest9x57; case hy9x57 => (intro w hSw; (try dsimp only at hSw); go_split_ands; go_simp; (try with_reducible rfl)))
      try simp only [Act.put, List.setIfInBounds_toArray, List.set_cons_zero, List.set_cons_succ, List.getElem_toArray, List.getElem_cons_zero, List.getElem_cons_succ]
      (refine wpAnyH_take (i := 10) (v := ?v10x58) rfl (by kernel_rfl) (by kernel_rfl) (by kernel_rfl) (fun _ _ _ h => h) (Or.inl ⟨by rfl, ?hy10x58⟩) (by assumption) ?rest10x58; case hy10x58 => (intro w hSw; (try dsimp only at hSw); go_split_ands; go_simp; (try with_reducible rfl)))
      try simp only [Act.put, List.setIfInBounds_toArray, List.set_cons_zero, List.set_cons_succ, List.getElem_toArray, List.getElem_cons_zero, List.getElem_cons_succ]
      (refine wpAnyH_take (i := 11) (v := undef) rfl (by kernel_rfl) (by kernel_rfl) (by kernel_rfl) (fun _ _ _ h => h) (Or.inr ⟨by rfl, rfl⟩) (by assumption) ?_)
      try simp only [Act.put, List.setIfInBounds_toArray, List.set_cons_zero, List.set_cons_succ, List.getElem_toArray, List.getElem_cons_zero, List.getElem_cons_succ]
      (refine wpAnyH_take (i := 12) (v := undef) rfl (by kernel_rfl) (by kernel_rfl) (by kernel_rfl) (fun _ _ _ h => h) (Or.inr ⟨by rfl, rfl⟩) (by assumption) ?_)
      try simp only [Act.put, List.setIfInBounds_toArray, List.set_cons_zero, List.set_cons_succ, List.getElem_toArray, List.getElem_cons_zero, List.getElem_cons_succ]
      (refine wpAnyH_take (i := 13) (v := undef) rfl (by kernel_rfl) (by kernel_rfl) (by kernel_rfl) (fun _ _ _ h => h) (Or.inr ⟨by rfl, rfl⟩) (by assumption) ?_)
      try simp only [Act.put, List.setIfInBounds_toArray, List.set_cons_zero, List.set_cons_succ, List.getElem_toArray, List.getElem_cons_zero, List.getElem_cons_succ]
      (refine wpAnyH_take (i := 14) (v := undef) rfl (by kernel_rfl) (by kernel_rfl) (by kernel_rfl) (fun _ _ _ h => h) (Or.inr ⟨by rfl, rfl⟩) (by assumption) ?_)
      try simp only [Act.put, List.setIfInBounds_toArray, List.set_cons_zero, List.set_cons_succ, List.getElem_toArray, List.getElem_cons_zero, List.getElem_cons_succ]
      (refine wpAnyH_take (i := 15) (v := undef) rfl (by kernel_rfl) (by kernel_rfl) (by kernel_rfl) (fun _ _ _ h => h) (Or.inr ⟨by rfl, rfl⟩) (by assumption) ?_)
      try simp only [Act.put, List.setIfInBounds_toArray, List.set_cons_zero, List.set_cons_succ, List.getElem_toArray, List.getElem_cons_zero, List.getElem_cons_succ]
      (refine wpAnyH_take (i := 16) (v := undef) rfl (by kernel_rfl) (by kernel_rfl) (by kernel_rfl) (fun _ _ _ h => h) (Or.inr ⟨by rfl, rfl⟩) (by assumption) ?_)
      try simp only [Act.put, List.setIfInBounds_toArray, List.set_cons_zero, List.set_cons_succ, List.getElem_toArray, List.getElem_cons_zero, List.getElem_cons_succ]
      (refine wpAnyH_take (i := 17) (v := undef) rfl (by kernel_rfl) (by kernel_rfl) (by kernel_rfl) (fun _ _ _ h => h) (Or.inr ⟨by rfl, rfl⟩) (by assumption) ?_)
      try simp only [Act.put, List.setIfInBounds_toArray, List.set_cons_zero, List.set_cons_succ, List.getElem_toArray, List.getElem_cons_zero, List.getElem_cons_succ]
      (refine wpAnyH_take (i := 18) (v := undef) rfl (by kernel_rfl) (by kernel_rfl) (by kernel_rfl) (fun _ _ _ h => h) (Or.inr ⟨by rfl, rfl⟩) (by assumption) ?_)
      try simp only [Act.put, List.setIfInBounds_toArray, List.set_cons_zero, List.set_cons_succ, List.getElem_toArray, List.getElem_cons_zero, List.getElem_cons_succ]
      (refine wpAnyH_take (i := 19) (v := undef) rfl (by kernel_rfl) (by kernel_rfl) (by kernel_rfl) (fun _ _ _ h => h) (Or.inr ⟨by rfl, rfl⟩) (by assumption) ?_)
      try simp only [Act.put, List.setIfInBounds_toArray, List.set_cons_zero, List.set_cons_succ, List.getElem_toArray, List.getElem_cons_zero, List.getElem_cons_succ]
      (refine wpAnyH_take (i := 20) (v := undef) rfl (by kernel_rfl) (by kernel_rfl) (by kernel_rfl) (fun _ _ _ h => h) (Or.inr ⟨by rfl, rfl⟩) (by assumption) ?_)
      try simp only [Act.put, List.setIfInBounds_toArray, List.set_cons_zero, List.set_cons_succ, List.getElem_toArray, List.getElem_cons_zero, List.getElem_cons_succ]
      (refine wpAnyH_take (i := 21) (v := undef) rfl (by kernel_rfl) (by kernel_rfl) (by kernel_rfl) (fun _ _ _ h => h) (Or.inr ⟨by rfl, rfl⟩) (by assumption) ?_)
      try simp only [Act.put, List.setIfInBounds_toArray, List.set_cons_zero, List.set_cons_succ, List.getElem_toArray, List.getElem_cons_zero, List.getElem_cons_succ]
      (refine wpAnyH_take (i := 22) (v := undef) rfl (by kernel_rfl) (by kernel_rfl) (by kernel_rfl) (fun _ _ _ h => h) (Or.inr ⟨by rfl, rfl⟩) (by assumption) ?_)
      try simp only [Act.put, List.setIfInBounds_toArray, List.set_cons_zero, List.set_cons_succ, List.getElem_toArray, List.getElem_cons_zero, List.getElem_cons_succ]
      (refine wpAnyH_take (i := 23) (v := undef) rfl (by kernel_rfl) (by kernel_rfl) (by kernel_rfl) (fun _ _ _ h => h) (Or.inr ⟨by rfl, rfl⟩) (by assumption) ?_)
      try simp only [Act.put, List.setIfInBounds_toArray, List.set_cons_zero, List.set_cons_succ, List.getElem_toArray, List.getElem_cons_zero, List.getElem_cons_succ]
      (refine wpAnyH_take (i := 24) (v := undef) rfl (by kernel_rfl) (by kernel_rfl) (by kernel_rfl) (fun _ _ _ h => h) (Or.inr ⟨by rfl, rfl⟩) (by assumption) ?_)
      try simp only [Act.put, List.setIfInBounds_toArray, List.set_cons_zero, List.set_cons_succ, List.getElem_toArray, List.getElem_cons_zero, List.getElem_cons_succ]
      (refine wpAnyH_take (i := 25) (v := undef) rfl (by kernel_rfl) (by kernel_rfl) (by kernel_rfl) (fun _ _ _ h => h) (Or.inr ⟨by rfl, rfl⟩) (by assumption) ?_)
      try simp only [Act.put, List.setIfInBounds_toArray, List.set_cons_zero, List.set_cons_succ, List.getElem_toArray, List.getElem_cons_zero, List.getElem_cons_succ]
      (refine wpAnyH_take (i := 26) (v := ?v26x74) rfl (by kernel_rfl) (by kernel_rfl) (by kernel_rfl) (fun _ _ _ h => h) (Or.inl ⟨by rfl, ?hy26x74⟩) (by assumption) ?rest26x74; case hy26x74 => (intro w hSw; (try dsimp only at hSw); go_split_ands; go_simp; (try with_reducible rfl)))
      try simp only [Act.put, List.setIfInBounds_toArray, List.set_cons_zero, List.set_cons_succ, List.getElem_toArray, List.getElem_cons_zero, List.getElem_cons_succ]
      (refine wpAnyH_take (i := 27) (v := ?v27x75) rfl (by kernel_rfl) (by kernel_rfl) (by kernel_rfl) (fun _ _ _ h => h) (Or.inl ⟨by rfl, ?hy27x75⟩) (by assumption) ?rest27x75; case hy27x75 => (intro w hSw; (try dsimp only at hSw); go_split_ands; go_simp; (try with_reducible rfl)))
      try simp only [Act.put, List.setIfInBounds_toArray, List.set_cons_zero, List.set_cons_succ, List.getElem_toArray, List.getElem_cons_zero, List.getElem_cons_succ]
      refine wpAnyH_done (by kernel_rfl) ?_ _
      clear hHeld
      obtain ⟨W9, hWd9⟩ : ∃ X, W8.drew = X := ⟨_, rfl⟩
      have b9 : Below W8.heap.size W8 W9 := by rw [← hWd9]; exact Below.drew (Below.refl _ _)
      rw [hWd9]
      clear hWd9
      have z9 : W8.heap.size ≤ W9.heap.size := b9.size
      have B9 : Hid (Below w.heap.size w W9) := B8.out.trans (b9.mono B8.out.size)
      have r_l9 : Hid (W9.heap[W1.heap.size]? = some (.cells #[.slice ao1 l.length cap1, .int .i64 h.n, .string h.r] 28 (0, 0))) := rowKeep r_l8.out b9
      have r_gg9 : Hid (W9.heap[W5.heap.size]? = some (.cells #[.slice ao9 m.length cap9, .int .i64 (m.length : Int), .string (root m)] 28 (0, 0))) := rowKeep r_gg8.out b9
      have o_p9 : Hid (Own W9 (W2.heap.size) (W3.heap.size) 9 (.slice ao_p L_p cap_p) (ss [])) := Own.later o_p8.out b9 (by omega)
      have o_q9 : Hid (Own W9 (W6.heap.size) (W7.heap.size) 9 (.slice ao_q L_q cap_q) (ss GG)) := Own.later o_q8.out b9 (by omega)
      have c_l9_0 : W9.cell? ⟨W1.heap.size, 0, none⟩ = some (.slice ao1 l.length cap1) := row_at r_l9.out 0
      have c_l9_1 : W9.cell? ⟨W1.heap.size, 1, none⟩ = some (.int .i64 h.n) := row_at r_l9.out 1
      have c_l9_2 : W9.cell? ⟨W1.heap.size, 2, none⟩ = some (.string h.r) := row_at r_l9.out 2
      have c_gg9_0 : W9.cell? ⟨W5.heap.size, 0, none⟩ = some (.slice ao9 m.length cap9) := row_at r_gg9.out 0
      have c_gg9_1 : W9.cell? ⟨W5.heap.size, 1, none⟩ = some (.int .i64 (m.length : Int)) := row_at r_gg9.out 1
      have c_gg9_2 : W9.cell? ⟨W5.heap.size, 2, none⟩ = some (.string (root m)) := row_at r_gg9.out 2
      clear r_l8 c_l8_0 c_l8_1 c_l8_2 r_gg8 c_gg8_0 c_gg8_1 c_gg8_2 o_p8 o_q8
      go_wp2_with fail
      refine wp_region_held_drew (S := fun w' => w'.cell? ⟨W5.heap.size, 0, none⟩ = some (.slice ao9 m.length cap9) ∧ w'.cell? ⟨W5.heap.size, 1, none⟩ = some (.int .i64 (m.length : Int)) ∧ w'.cell? ⟨W5.heap.size, 2, none⟩ = some (.string (root m))) (by kernel_rfl) ⟨c_gg9_0, c_gg9_1, c_gg9_2⟩ (fun hHeld => ?_)
      (refine wpAnyH_take (i := 0) (v := ?v0x76) rfl (by kernel_rfl) (by kernel_rfl) (by kernel_rfl) (fun _ _ _ h => h) (Or.inl ⟨by rfl, ?hy0x76⟩) (by assumption) ?rest0x76; case hy0x76 => (intro w hSw; (try dsimp only at hSw); go_split_ands; go_simp; (try with_reducible rfl)))
      try simp only [Act.put, List.setIfInBounds_toArray, List.set_cons_zero, List.set_cons_succ, List.getElem_toArray, List.getElem_cons_zero, List.getElem_cons_succ]
      (refine wpAnyH_take (i := 1) (v := ?v1x77) rfl (by kernel_rfl) (by kernel_rfl) (by kernel_rfl) (fun _ _ _ h => h) (Or.inl ⟨by rfl, ?hy1x77⟩) (by assumption) ?rest1x77; case hy1x77 => (intro w hSw; (try dsimp only at hSw); go_split_ands; go_simp; (try with_reducible rfl)))
      try simp only [Act.put, List.setIfInBounds_toArray, List.set_cons_zero, List.set_cons_succ, List.getElem_toArray, List.getElem_cons_zero, List.getElem_cons_succ]
      (refine wpAnyH_take (i := 2) (v := ?v2x78) rfl (by kernel_rfl) (by kernel_rfl) (by kernel_rfl) (fun _ _ _ h => h) (Or.inl ⟨by rfl, ?hy2x78⟩) (by assumption) ?rest2x78; case hy2x78 => (intro w hSw; (try dsimp only at hSw); go_split_ands; go_simp; (try with_reducible rfl)))
      try simp only [Act.put, List.setIfInBounds_toArray, List.set_cons_zero, List.set_cons_succ, List.getElem_toArray, List.getElem_cons_zero, List.getElem_cons_succ]
      (refine wpAnyH_take (i := 3) (v := ?v3x79) rfl (by kernel_rfl) (by kernel_rfl) (by kernel_rfl) (fun _ _ _ h => h) (Or.inl ⟨by rfl, ?hy3x79⟩) (by assumption) ?rest3x79; case hy3x79 => (intro w hSw; (try dsimp only at hSw); go_split_ands; go_simp; (try with_reducible rfl)))
      try simp only [Act.put, List.setIfInBounds_toArray, List.set_cons_zero, List.set_cons_succ, List.getElem_toArray, List.getElem_cons_zero, List.getElem_cons_succ]
      (refine wpAnyH_take (i := 4) (v := ?v4x80) rfl (by kernel_rfl) (by kernel_rfl) (by kernel_rfl) (fun _ _ _ h => h) (Or.inl ⟨by rfl, ?hy4x80⟩) (by assumption) ?rest4x80; case hy4x80 => (intro w hSw; (try dsimp only at hSw); go_split_ands; go_simp; (try with_reducible rfl)))
      try simp only [Act.put, List.setIfInBounds_toArray, List.set_cons_zero, List.set_cons_succ, List.getElem_toArray, List.getElem_cons_zero, List.getElem_cons_succ]
      (refine wpAnyH_take (i := 5) (v := ?v5x81) rfl (by kernel_rfl) (by kernel_rfl) (by kernel_rfl) (fun _ _ _ h => h) (Or.inl ⟨by rfl, ?hy5x81⟩) (by assumption) ?rest5x81; case hy5x81 => (intro w hSw; (try dsimp only at hSw); go_split_ands; go_simp; (try with_reducible rfl)))
      try simp only [Act.put, List.setIfInBounds_toArray, List.set_cons_zero, List.set_cons_succ, List.getElem_toArray, List.getElem_cons_zero, List.getElem_cons_succ]
      (refine wpAnyH_take (i := 6) (v := ?v6x82) rfl (by kernel_rfl) (by kernel_rfl) (by kernel_rfl) (fun _ _ _ h => h) (Or.inl ⟨by rfl, ?hy6x82⟩) (by assumption) ?rest6x82; case hy6x82 => (intro w hSw; (try dsimp only at hSw); go_split_ands; go_simp; (try with_reducible rfl)))
      try simp only [Act.put, List.setIfInBounds_toArray, List.set_cons_zero, List.set_cons_succ, List.getElem_toArray, List.getElem_cons_zero, List.getElem_cons_succ]
      (refine wpAnyH_take (i := 7) (v := ?v7x83) rfl (by kernel_rfl) (by kernel_rfl) (by kernel_rfl) (fun _ _ _ h => h) (Or.inl ⟨by rfl, ?hy7x83⟩) (by assumption) ?rest7x83; case hy7x83 => (intro w hSw; (try dsimp only at hSw); go_split_ands; go_simp; (try with_reducible rfl)))
      try simp only [Act.put, List.setIfInBounds_toArray, List.set_cons_zero, List.set_cons_succ, List.getElem_toArray, List.getElem_cons_zero, List.getElem_cons_succ]
      (refine wpAnyH_take (i := 8) (v := ?v8x84) rfl (by kernel_rfl) (by kernel_rfl) (by kernel_rfl) (fun _ _ _ h => h) (Or.inl ⟨by rfl, ?hy8x84⟩) (by assumption) ?rest8x84; case hy8x84 => (intro w hSw; (try dsimp only at hSw); go_split_ands; go_simp; (try with_reducible rfl)))
      try simp only [Act.put, List.setIfInBounds_toArray, List.set_cons_zero, List.set_cons_succ, List.getElem_toArray, List.getElem_cons_zero, List.getElem_cons_succ]
      (refine wpAnyH_take (i := 9) (v := ?v9x85) rfl (by kernel_rfl) (by kernel_rfl) (by kernel_rfl) (fun _ _ _ h => h) (Or.inl ⟨by rfl, ?hy9x85⟩) (by assumption) ?rest9x85; case hy9x85 => (intro w hSw; (try dsimp only at hSw); go_split_ands; go_simp; (try with_reducible rfl)))
      try simp only [Act.put, List.setIfInBounds_toArray, List.set_cons_zero, List.set_cons_succ, List.getElem_toArray, List.getElem_cons_zero, List.getElem_cons_succ]
      (refine wpAnyH_take (i := 10) (v := ?v10x86) rfl (by kernel_rfl) (by kernel_rfl) (by kernel_rfl) (fun _ _ _ h => h) (Or.inl ⟨by rfl, ?hy10x86⟩) (by assumption) ?rest10x86; case hy10x86 => (intro w hSw; (try dsimp only at hSw); go_split_ands; go_simp; (try with_reducible rfl)))
      try simp only [Act.put, List.setIfInBounds_toArray, List.set_cons_zero, List.set_cons_succ, List.getElem_toArray, List.getElem_cons_zero, List.getElem_cons_succ]
      (refine wpAnyH_take (i := 12) (v := ?v12x87) rfl (by kernel_rfl) (by kernel_rfl) (by kernel_rfl) (fun _ _ _ h => h) (Or.inl ⟨by rfl, ?hy12x87⟩) (by assumption) ?rest12x87; case hy12x87 => (intro w hSw; (try dsimp only at hSw); go_split_ands; go_simp; (try with_reducible rfl)))
      try simp only [Act.put, List.setIfInBounds_toArray, List.set_cons_zero, List.set_cons_succ, List.getElem_toArray, List.getElem_cons_zero, List.getElem_cons_succ]
      (refine wpAnyH_take (i := 13) (v := ?v13x88) rfl (by kernel_rfl) (by kernel_rfl) (by kernel_rfl) (fun _ _ _ h => h) (Or.inl ⟨by rfl, ?hy13x88⟩) (by assumption) ?rest13x88; case hy13x88 => (intro w hSw; (try dsimp only at hSw); go_split_ands; go_simp; (try with_reducible rfl)))
      try simp only [Act.put, List.setIfInBounds_toArray, List.set_cons_zero, List.set_cons_succ, List.getElem_toArray, List.getElem_cons_zero, List.getElem_cons_succ]
      (refine wpAnyH_take (i := 14) (v := ?v14x89) rfl (by kernel_rfl) (by kernel_rfl) (by kernel_rfl) (fun _ _ _ h => h) (Or.inl ⟨by rfl, ?hy14x89⟩) (by assumption) ?rest14x89; case hy14x89 => (intro w hSw; (try dsimp only at hSw); go_split_ands; go_simp; (try with_reducible rfl)))
      try simp only [Act.put, List.setIfInBounds_toArray, List.set_cons_zero, List.set_cons_succ, List.getElem_toArray, List.getElem_cons_zero, List.getElem_cons_succ]
      (refine wpAnyH_take (i := 15) (v := ?v15x90) rfl (by kernel_rfl) (by kernel_rfl) (by kernel_rfl) (fun _ _ _ h => h) (Or.inl ⟨by rfl, ?hy15x90⟩) (by assumption) ?rest15x90; case hy15x90 => (intro w hSw; (try dsimp only at hSw); go_split_ands; go_simp; (try with_reducible rfl)))
      try simp only [Act.put, List.setIfInBounds_toArray, List.set_cons_zero, List.set_cons_succ, List.getElem_toArray, List.getElem_cons_zero, List.getElem_cons_succ]
      have E0 : Below W5.heap.size W5 W9 := ((((((b6).trans (b7.mono (b6).size))).trans (b8.mono (((b6).trans (b7.mono (b6).size))).size))).trans (b9.mono (((((b6).trans (b7.mono (b6).size))).trans (b8.mono (((b6).trans (b7.mono (b6).size))).size))).size))
      refine wpAnyH_ready (rs := [11]) (by kernel_rfl) (by simp) ?_
      refine AllReadyH.cons rfl (fun K hK => ?_) AllReadyH.nil
      go_simp
      refine (qroot W9.drew _ (Below.drew B9.out) (sfr.out _ (Below.drew E0))).mono ?_
      rintro e W10 ⟨rfl, b10⟩
      have b10 : Below W9.heap.size W9 W10 := (Below.drew (Below.refl _ _)).trans b10
      refine hK.out _ _ ⟨(keepR (W := W9) hHeld.1 b10), (keepR (W := W9) hHeld.2.1 b10), (keepR (W := W9) hHeld.2.2 b10)⟩ (fun hHeld => ?_)
      clear hK K
      try simp only [Act.put, List.setIfInBounds_toArray, List.set_cons_zero, List.set_cons_succ, List.getElem_toArray, List.getElem_cons_zero, List.getElem_cons_succ]
      have z10 : W9.heap.size ≤ W10.heap.size := b10.size
      have B10 : Hid (Below w.heap.size w W10) := B9.out.trans (b10.mono B9.out.size)
      have r_l10 : Hid (W10.heap[W1.heap.size]? = some (.cells #[.slice ao1 l.length cap1, .int .i64 h.n, .string h.r] 28 (0, 0))) := rowKeep r_l9.out b10
      have r_gg10 : Hid (W10.heap[W5.heap.size]? = some (.cells #[.slice ao9 m.length cap9, .int .i64 (m.length : Int), .string (root m)] 28 (0, 0))) := rowKeep r_gg9.out b10
      have o_p10 : Hid (Own W10 (W2.heap.size) (W3.heap.size) 9 (.slice ao_p L_p cap_p) (ss [])) := Own.later o_p9.out b10 (by omega)
      have o_q10 : Hid (Own W10 (W6.heap.size) (W7.heap.size) 9 (.slice ao_q L_q cap_q) (ss GG)) := Own.later o_q9.out b10 (by omega)
      have c_l10_0 : W10.cell? ⟨W1.heap.size, 0, none⟩ = some (.slice ao1 l.length cap1) := row_at r_l10.out 0
      have c_l10_1 : W10.cell? ⟨W1.heap.size, 1, none⟩ = some (.int .i64 h.n) := row_at r_l10.out 1
      have c_l10_2 : W10.cell? ⟨W1.heap.size, 2, none⟩ = some (.string h.r) := row_at r_l10.out 2
      have c_gg10_0 : W10.cell? ⟨W5.heap.size, 0, none⟩ = some (.slice ao9 m.length cap9) := row_at r_gg10.out 0
      have c_gg10_1 : W10.cell? ⟨W5.heap.size, 1, none⟩ = some (.int .i64 (m.length : Int)) := row_at r_gg10.out 1
      have c_gg10_2 : W10.cell? ⟨W5.heap.size, 2, none⟩ = some (.string (root m)) := row_at r_gg10.out 2
      clear r_l9 c_l9_0 c_l9_1 c_l9_2 r_gg9 c_gg9_0 c_gg9_1 c_gg9_2 o_p9 o_q9
      refine wpAnyH_ready (rs := [16]) (by kernel_rfl) (by simp) ?_
      refine AllReadyH.cons rfl (fun K hK => ?_) AllReadyH.nil
      go_simp
      refine (qcg W10 _ B10.out o_q10.out.sl).mono ?_
      rintro e W11 ⟨rfl, b11⟩
      refine hK.out _ _ ⟨(keepR (W := W10) hHeld.1 b11), (keepR (W := W10) hHeld.2.1 b11), (keepR (W := W10) hHeld.2.2 b11)⟩ (fun hHeld => ?_)
      clear hK K
      try simp only [Act.put, List.setIfInBounds_toArray, List.set_cons_zero, List.set_cons_succ, List.getElem_toArray, List.getElem_cons_zero, List.getElem_cons_succ]
      have z11 : W10.heap.size ≤ W11.heap.size := b11.size
      have B11 : Hid (Below w.heap.size w W11) := B10.out.trans (b11.mono B10.out.size)
      have r_l11 : Hid (W11.heap[W1.heap.size]? = some (.cells #[.slice ao1 l.length cap1, .int .i64 h.n, .string h.r] 28 (0, 0))) := rowKeep r_l10.out b11
      have r_gg11 : Hid (W11.heap[W5.heap.size]? = some (.cells #[.slice ao9 m.length cap9, .int .i64 (m.length : Int), .string (root m)] 28 (0, 0))) := rowKeep r_gg10.out b11
      have o_p11 : Hid (Own W11 (W2.heap.size) (W3.heap.size) 9 (.slice ao_p L_p cap_p) (ss [])) := Own.later o_p10.out b11 (by omega)
      have o_q11 : Hid (Own W11 (W6.heap.size) (W7.heap.size) 9 (.slice ao_q L_q cap_q) (ss GG)) := Own.later o_q10.out b11 (by omega)
      have c_l11_0 : W11.cell? ⟨W1.heap.size, 0, none⟩ = some (.slice ao1 l.length cap1) := row_at r_l11.out 0
      have c_l11_1 : W11.cell? ⟨W1.heap.size, 1, none⟩ = some (.int .i64 h.n) := row_at r_l11.out 1
      have c_l11_2 : W11.cell? ⟨W1.heap.size, 2, none⟩ = some (.string h.r) := row_at r_l11.out 2
      have c_gg11_0 : W11.cell? ⟨W5.heap.size, 0, none⟩ = some (.slice ao9 m.length cap9) := row_at r_gg11.out 0
      have c_gg11_1 : W11.cell? ⟨W5.heap.size, 1, none⟩ = some (.int .i64 (m.length : Int)) := row_at r_gg11.out 1
      have c_gg11_2 : W11.cell? ⟨W5.heap.size, 2, none⟩ = some (.string (root m)) := row_at r_gg11.out 2
      clear r_l10 c_l10_0 c_l10_1 c_l10_2 r_gg10 c_gg10_0 c_gg10_1 c_gg10_2 o_p10 o_q10
      (refine wpAnyH_take (i := 17) (v := ?v17x91) rfl (by kernel_rfl) (by kernel_rfl) (by kernel_rfl) (fun _ _ _ h => h) (Or.inl ⟨by rfl, ?hy17x91⟩) (by assumption) ?rest17x91; case hy17x91 => (intro w hSw; (try dsimp only at hSw); go_split_ands; go_simp; (try with_reducible rfl)))
      try simp only [Act.put, List.setIfInBounds_toArray, List.set_cons_zero, List.set_cons_succ, List.getElem_toArray, List.getElem_cons_zero, List.getElem_cons_succ]
      (refine wpAnyH_take (i := 18) (v := ?v18x92) rfl (by kernel_rfl) (by kernel_rfl) (by kernel_rfl) (fun _ _ _ h => h) (Or.inl ⟨by rfl, ?hy18x92⟩) (by assumption) ?rest18x92; case hy18x92 => (intro w hSw; (try dsimp only at hSw); go_split_ands; go_simp; (try with_reducible rfl)))
      try simp only [Act.put, List.setIfInBounds_toArray, List.set_cons_zero, List.set_cons_succ, List.getElem_toArray, List.getElem_cons_zero, List.getElem_cons_succ]
      refine wpAnyH_done (by kernel_rfl) ?_ _
      clear hHeld
      go_wp2
      go_ret
      exact ⟨rfl, B11.out⟩
  · have B1 : Hid (Below w.heap.size w W1) := b1
    have z1 : w.heap.size ≤ W1.heap.size := b1.size
    subst hy
    subst hhq
    simp only [hq] at qPI qSI
    have qck : ∀ W v1, Below w.heap.size w W → Sl W v1 (ss (path l j)) → _ := fun W v1 hB hv => iCk W hB v1 s (j : Int) (l.length : Int) (path l j) (root l) hv (by have := proveIn_len l ⟨(l.length : Int), root l⟩ (j : Int); rw [hq] at this; exact this) (by have := hls s (List.mem_of_getElem? hsj); omega) (by rw [root_size]; omega) (fun t ht => by have := path_sizes l j t ht; omega)
    simp only [(paths_facts hl2 hsj).1] at qck
    have hjl : j < l.length := (List.getElem?_eq_some_iff.1 hsj).1
    obtain ⟨bt, ot, hao, hct⟩ : ∃ b off, ao1 = some ⟨b, off, none⟩ ∧ W1.cell? ⟨b, off + j, none⟩ = some (.string s) := by
      obtain ⟨ao', cap', he, _, _, hr'⟩ := HS1.out
      rw [ss_len] at he hr'
      simp only [Value.slice.injEq] at he
      obtain ⟨rfl, _, rfl⟩ := he
      obtain ⟨b, off, he, hc⟩ := hr' (by omega)
      exact ⟨b, off, he, by rw [hc j hjl]; simp [ss, hsj]⟩
    subst hao
    have ct : Hid (∀ W, Below W1.heap.size W1 W → W.cell? ⟨bt, ot + j, none⟩ = some (.string s)) := fun W hW => keepR hct hW
    clear hct
    obtain ⟨PP, hPP⟩ : ∃ PP, path l j = PP := ⟨_, rfl⟩
    simp only [hPP] at qPI qSI qck
    clear hPP hq iCk hls hsj
    have k0 : (0 : Int) ≤ (j : Int) := by omega
    have k1 : (j : Int) < (l.length : Int) := by omega
    clear iPI
    obtain ⟨W2, HW2, b2, y2, hS2, r_l2⟩ : ∃ X, Hid ((W1.alloc (.cells #[.slice (some ⟨bt, ot, none⟩) l.length cap1, .int .i64 (l.length : Int), .string (root l)] 28)) = X) ∧ Below W1.heap.size W1 X ∧ W1.heap.size + 1 ≤ X.heap.size ∧ Hid (X.heap.size = W1.heap.size + 1) ∧ Hid (X.heap[W1.heap.size]? = some (.cells #[.slice (some ⟨bt, ot, none⟩) l.length cap1, .int .i64 (l.length : Int), .string (root l)] 28 (0, 0))) := ⟨_, rfl, ((Below.refl _ _).alloc (Nat.le_refl _) _), by simp, by show _ = _; simp, (by show _ = _; exact alloc_nth1_0 W1 _)⟩
    have z2 : W1.heap.size ≤ W2.heap.size := b2.size
    have B2 : Hid (Below w.heap.size w W2) := B1.out.trans (b2.mono B1.out.size)
    have c_l2_0 : W2.cell? ⟨W1.heap.size, 0, none⟩ = some (.slice (some ⟨bt, ot, none⟩) l.length cap1) := row_at r_l2.out 0
    have c_l2_1 : W2.cell? ⟨W1.heap.size, 1, none⟩ = some (.int .i64 (l.length : Int)) := row_at r_l2.out 1
    have c_l2_2 : W2.cell? ⟨W1.heap.size, 2, none⟩ = some (.string (root l)) := row_at r_l2.out 2
    go_wp2_with fail
    rw [HW2.out]
    refine (qPI W2 _ B2.out (HS1.out.later b2)).mono ?_
    rintro e W3 ⟨v_p, rfl, o_p3, b3⟩
    obtain ⟨ao_p, L_p, cap_p, rfl, hL_p, hM_p⟩ := o_p3.form
    have o_p3 : Hid (Own W3 W2.heap.size W3.heap.size 9 (.slice ao_p L_p cap_p) (ss PP)) := o_p3
    clear hL_p hM_p
    have z3 : W2.heap.size ≤ W3.heap.size := b3.size
    have B3 : Hid (Below w.heap.size w W3) := B2.out.trans (b3.mono B2.out.size)
    have r_l3 : Hid (W3.heap[W1.heap.size]? = some (.cells #[.slice (some ⟨bt, ot, none⟩) l.length cap1, .int .i64 (l.length : Int), .string (root l)] 28 (0, 0))) := rowKeep r_l2.out b3
    have c_l3_0 : W3.cell? ⟨W1.heap.size, 0, none⟩ = some (.slice (some ⟨bt, ot, none⟩) l.length cap1) := row_at r_l3.out 0
    have c_l3_1 : W3.cell? ⟨W1.heap.size, 1, none⟩ = some (.int .i64 (l.length : Int)) := row_at r_l3.out 1
    have c_l3_2 : W3.cell? ⟨W1.heap.size, 2, none⟩ = some (.string (root l)) := row_at r_l3.out 2
    clear r_l2 c_l2_0 c_l2_1 c_l2_2
    go_wp2_with fail
    refine (qSI W3 _ (HS1.out.later (b2.trans (b3.mono b2.size)))).mono ?_
    rintro e W4 ⟨v_p2, rfl, o_p24, b4⟩
    obtain ⟨ao_p2, L_p2, cap_p2, rfl, hL_p2, hM_p2⟩ := o_p24.form
    have o_p24 : Hid (Own W4 W3.heap.size W4.heap.size 9 (.slice ao_p2 L_p2 cap_p2) (ss PP)) := o_p24
    clear hL_p2 hM_p2
    have z4 : W3.heap.size ≤ W4.heap.size := b4.size
    have B4 : Hid (Below w.heap.size w W4) := B3.out.trans (b4.mono B3.out.size)
    have r_l4 : Hid (W4.heap[W1.heap.size]? = some (.cells #[.slice (some ⟨bt, ot, none⟩) l.length cap1, .int .i64 (l.length : Int), .string (root l)] 28 (0, 0))) := rowKeep r_l3.out b4
    have o_p4 : Hid (Own W4 (W2.heap.size) (W3.heap.size) 9 (.slice ao_p L_p cap_p) (ss PP)) := Own.later o_p3.out b4 (by omega)
    have c_l4_0 : W4.cell? ⟨W1.heap.size, 0, none⟩ = some (.slice (some ⟨bt, ot, none⟩) l.length cap1) := row_at r_l4.out 0
    have c_l4_1 : W4.cell? ⟨W1.heap.size, 1, none⟩ = some (.int .i64 (l.length : Int)) := row_at r_l4.out 1
    have c_l4_2 : W4.cell? ⟨W1.heap.size, 2, none⟩ = some (.string (root l)) := row_at r_l4.out 2
    clear r_l3 c_l3_0 c_l3_1 c_l3_2 o_p3
    clear o_p24
    clear qPI qSI
    go_wp2_with fail
    refine (qe W4 B4.out).mono ?_
    rintro e W5 ⟨v9, m, hh, y, rfl, hml, hms, hmr, hyb, hml2, b5⟩
    obtain ⟨ao9, cap9, rfl, hc9⟩ := hml2.form
    simp only [ss_len] at *
    have HS9 : Hid (Sl W5 (.slice ao9 m.length cap9) (ss m)) := hml2
    clear hml2 qe
    have z5 : W4.heap.size ≤ W5.heap.size := b5.size
    have B5 : Hid (Below w.heap.size w W5) := B4.out.trans (b5.mono B4.out.size)
    have r_l5 : Hid (W5.heap[W1.heap.size]? = some (.cells #[.slice (some ⟨bt, ot, none⟩) l.length cap1, .int .i64 (l.length : Int), .string (root l)] 28 (0, 0))) := rowKeep r_l4.out b5
    have o_p5 : Hid (Own W5 (W2.heap.size) (W3.heap.size) 9 (.slice ao_p L_p cap_p) (ss PP)) := Own.later o_p4.out b5 (by omega)
    have c_l5_0 : W5.cell? ⟨W1.heap.size, 0, none⟩ = some (.slice (some ⟨bt, ot, none⟩) l.length cap1) := row_at r_l5.out 0
    have c_l5_1 : W5.cell? ⟨W1.heap.size, 1, none⟩ = some (.int .i64 (l.length : Int)) := row_at r_l5.out 1
    have c_l5_2 : W5.cell? ⟨W1.heap.size, 2, none⟩ = some (.string (root l)) := row_at r_l5.out 2
    clear r_l4 c_l4_0 c_l4_1 c_l4_2 o_p4
    have qPG : ∀ W v', Below w.heap.size w W → Sl W v' (ss m) → _ := fun W v' hB hv => iPG W hB v' m hh y hv (by omega) (fun s hs => by have := hms s hs; omega) (by omega)
    have qSG : ∀ W v', Sl W v' (ss m) → _ := fun W v' hv => provegrown_spec W v' m hh y hv (by omega) (fun s hs => by have := hms s hs; omega)
    clear iPG
    rcases proveGrown_cases m hh y with hq | ⟨n1, hy1, hn1, hn2, hn3, hhq, hq⟩
    · simp only [hq] at qPG qSG
      clear hq iCg iRoot hms
      have a_l5_0 : ∀ o, (W5.alloc o).cell? ⟨W1.heap.size, 0, none⟩ = some (.slice (some ⟨bt, ot, none⟩) l.length cap1) := fun o => keepR c_l5_0 ((Below.refl _ _).alloc (Nat.le_refl _) o)
      have a_l5_1 : ∀ o, (W5.alloc o).cell? ⟨W1.heap.size, 1, none⟩ = some (.int .i64 (l.length : Int)) := fun o => keepR c_l5_1 ((Below.refl _ _).alloc (Nat.le_refl _) o)
      have a_l5_2 : ∀ o, (W5.alloc o).cell? ⟨W1.heap.size, 2, none⟩ = some (.string (root l)) := fun o => keepR c_l5_2 ((Below.refl _ _).alloc (Nat.le_refl _) o)
      obtain ⟨W6, HW6, b6, y6, hS6, r_gg6⟩ : ∃ X, Hid ((W5.alloc (.cells #[.slice ao9 m.length cap9, .int .i64 hh.n, .string hh.r] 28)) = X) ∧ Below W5.heap.size W5 X ∧ W5.heap.size + 1 ≤ X.heap.size ∧ Hid (X.heap.size = W5.heap.size + 1) ∧ Hid (X.heap[W5.heap.size]? = some (.cells #[.slice ao9 m.length cap9, .int .i64 hh.n, .string hh.r] 28 (0, 0))) := ⟨_, rfl, ((Below.refl _ _).alloc (Nat.le_refl _) _), by simp, by show _ = _; simp, (by show _ = _; exact alloc_nth1_0 W5 _)⟩
      have z6 : W5.heap.size ≤ W6.heap.size := b6.size
      have B6 : Hid (Below w.heap.size w W6) := B5.out.trans (b6.mono B5.out.size)
      have r_l6 : Hid (W6.heap[W1.heap.size]? = some (.cells #[.slice (some ⟨bt, ot, none⟩) l.length cap1, .int .i64 (l.length : Int), .string (root l)] 28 (0, 0))) := rowKeep r_l5.out b6
      have o_p6 : Hid (Own W6 (W2.heap.size) (W3.heap.size) 9 (.slice ao_p L_p cap_p) (ss PP)) := Own.later o_p5.out b6 (by omega)
      have c_l6_0 : W6.cell? ⟨W1.heap.size, 0, none⟩ = some (.slice (some ⟨bt, ot, none⟩) l.length cap1) := row_at r_l6.out 0
      have c_l6_1 : W6.cell? ⟨W1.heap.size, 1, none⟩ = some (.int .i64 (l.length : Int)) := row_at r_l6.out 1
      have c_l6_2 : W6.cell? ⟨W1.heap.size, 2, none⟩ = some (.string (root l)) := row_at r_l6.out 2
      have c_gg6_0 : W6.cell? ⟨W5.heap.size, 0, none⟩ = some (.slice ao9 m.length cap9) := row_at r_gg6.out 0
      have c_gg6_1 : W6.cell? ⟨W5.heap.size, 1, none⟩ = some (.int .i64 hh.n) := row_at r_gg6.out 1
      have c_gg6_2 : W6.cell? ⟨W5.heap.size, 2, none⟩ = some (.string hh.r) := row_at r_gg6.out 2
      clear r_l5 c_l5_0 c_l5_1 c_l5_2 o_p5
      go_wp2_with fail
      rw [HW6.out]
      clear a_l5_0 a_l5_1 a_l5_2
      refine (qPG W6 _ B6.out (HS9.out.later b6)).mono ?_
      rintro e W7 ⟨v_q, rfl, o_q7, b7⟩
      obtain ⟨ao_q, L_q, cap_q, rfl, hL_q, hM_q⟩ := o_q7.form
      have o_q7 : Hid (Own W7 W6.heap.size W7.heap.size 9 (.slice ao_q L_q cap_q) (ss [])) := o_q7
      clear hL_q hM_q
      have z7 : W6.heap.size ≤ W7.heap.size := b7.size
      have B7 : Hid (Below w.heap.size w W7) := B6.out.trans (b7.mono B6.out.size)
      have r_l7 : Hid (W7.heap[W1.heap.size]? = some (.cells #[.slice (some ⟨bt, ot, none⟩) l.length cap1, .int .i64 (l.length : Int), .string (root l)] 28 (0, 0))) := rowKeep r_l6.out b7
      have r_gg7 : Hid (W7.heap[W5.heap.size]? = some (.cells #[.slice ao9 m.length cap9, .int .i64 hh.n, .string hh.r] 28 (0, 0))) := rowKeep r_gg6.out b7
      have o_p7 : Hid (Own W7 (W2.heap.size) (W3.heap.size) 9 (.slice ao_p L_p cap_p) (ss PP)) := Own.later o_p6.out b7 (by omega)
      have c_l7_0 : W7.cell? ⟨W1.heap.size, 0, none⟩ = some (.slice (some ⟨bt, ot, none⟩) l.length cap1) := row_at r_l7.out 0
      have c_l7_1 : W7.cell? ⟨W1.heap.size, 1, none⟩ = some (.int .i64 (l.length : Int)) := row_at r_l7.out 1
      have c_l7_2 : W7.cell? ⟨W1.heap.size, 2, none⟩ = some (.string (root l)) := row_at r_l7.out 2
      have c_gg7_0 : W7.cell? ⟨W5.heap.size, 0, none⟩ = some (.slice ao9 m.length cap9) := row_at r_gg7.out 0
      have c_gg7_1 : W7.cell? ⟨W5.heap.size, 1, none⟩ = some (.int .i64 hh.n) := row_at r_gg7.out 1
      have c_gg7_2 : W7.cell? ⟨W5.heap.size, 2, none⟩ = some (.string hh.r) := row_at r_gg7.out 2
      clear r_l6 c_l6_0 c_l6_1 c_l6_2 r_gg6 c_gg6_0 c_gg6_1 c_gg6_2 o_p6
      go_wp2_with fail
      refine (qSG W7 _ (HS9.out.later (b6.trans (b7.mono b6.size)))).mono ?_
      rintro e W8 ⟨v_q2, rfl, o_q28, b8⟩
      obtain ⟨ao_q2, L_q2, cap_q2, rfl, hL_q2, hM_q2⟩ := o_q28.form
      have o_q28 : Hid (Own W8 W7.heap.size W8.heap.size 9 (.slice ao_q2 L_q2 cap_q2) (ss [])) := o_q28
      clear hL_q2 hM_q2
      have z8 : W7.heap.size ≤ W8.heap.size := b8.size
      have B8 : Hid (Below w.heap.size w W8) := B7.out.trans (b8.mono B7.out.size)
      have r_l8 : Hid (W8.heap[W1.heap.size]? = some (.cells #[.slice (some ⟨bt, ot, none⟩) l.length cap1, .int .i64 (l.length : Int), .string (root l)] 28 (0, 0))) := rowKeep r_l7.out b8
      have r_gg8 : Hid (W8.heap[W5.heap.size]? = some (.cells #[.slice ao9 m.length cap9, .int .i64 hh.n, .string hh.r] 28 (0, 0))) := rowKeep r_gg7.out b8
      have o_p8 : Hid (Own W8 (W2.heap.size) (W3.heap.size) 9 (.slice ao_p L_p cap_p) (ss PP)) := Own.later o_p7.out b8 (by omega)
      have o_q8 : Hid (Own W8 (W6.heap.size) (W7.heap.size) 9 (.slice ao_q L_q cap_q) (ss [])) := Own.later o_q7.out b8 (by omega)
      have c_l8_0 : W8.cell? ⟨W1.heap.size, 0, none⟩ = some (.slice (some ⟨bt, ot, none⟩) l.length cap1) := row_at r_l8.out 0
      have c_l8_1 : W8.cell? ⟨W1.heap.size, 1, none⟩ = some (.int .i64 (l.length : Int)) := row_at r_l8.out 1
      have c_l8_2 : W8.cell? ⟨W1.heap.size, 2, none⟩ = some (.string (root l)) := row_at r_l8.out 2
      have c_gg8_0 : W8.cell? ⟨W5.heap.size, 0, none⟩ = some (.slice ao9 m.length cap9) := row_at r_gg8.out 0
      have c_gg8_1 : W8.cell? ⟨W5.heap.size, 1, none⟩ = some (.int .i64 hh.n) := row_at r_gg8.out 1
      have c_gg8_2 : W8.cell? ⟨W5.heap.size, 2, none⟩ = some (.string hh.r) := row_at r_gg8.out 2
      clear r_l7 c_l7_0 c_l7_1 c_l7_2 r_gg7 c_gg7_0 c_gg7_1 c_gg7_2 o_p7 o_q7
      clear o_q28
      clear qPG qSG
      go_wp2_with fail
      have E9 : Below W1.heap.size W1 W8 := ((((((((((((b2).trans (b3.mono (b2).size))).trans (b4.mono (((b2).trans (b3.mono (b2).size))).size))).trans (b5.mono (((((b2).trans (b3.mono (b2).size))).trans (b4.mono (((b2).trans (b3.mono (b2).size))).size))).size))).trans (b6.mono (((((((b2).trans (b3.mono (b2).size))).trans (b4.mono (((b2).trans (b3.mono (b2).size))).size))).trans (b5.mono (((((b2).trans (b3.mono (b2).size))).trans (b4.mono (((b2).trans (b3.mono (b2).size))).size))).size))).size))).trans (b7.mono (((((((((b2).trans (b3.mono (b2).size))).trans (b4.mono (((b2).trans (b3.mono (b2).size))).size))).trans (b5.mono (((((b2).trans (b3.mono (b2).size))).trans (b4.mono (((b2).trans (b3.mono (b2).size))).size))).size))).trans (b6.mono (((((((b2).trans (b3.mono (b2).size))).trans (b4.mono (((b2).trans (b3.mono (b2).size))).size))).trans (b5.mono (((((b2).trans (b3.mono (b2).size))).trans (b4.mono (((b2).trans (b3.mono (b2).size))).size))).size))).size))).size))).trans (b8.mono (((((((((((b2).trans (b3.mono (b2).size))).trans (b4.mono (((b2).trans (b3.mono (b2).size))).size))).trans (b5.mono (((((b2).trans (b3.mono (b2).size))).trans (b4.mono (((b2).trans (b3.mono (b2).size))).size))).size))).trans (b6.mono (((((((b2).trans (b3.mono (b2).size))).trans (b4.mono (((b2).trans (b3.mono (b2).size))).size))).trans (b5.mono (((((b2).trans (b3.mono (b2).size))).trans (b4.mono (((b2).trans (b3.mono (b2).size))).size))).size))).size))).trans (b7.mono (((((((((b2).trans (b3.mono (b2).size))).trans (b4.mono (((b2).trans (b3.mono (b2).size))).size))).trans (b5.mono (((((b2).trans (b3.mono (b2).size))).trans (b4.mono (((b2).trans (b3.mono (b2).size))).size))).size))).trans (b6.mono (((((((b2).trans (b3.mono (b2).size))).trans (b4.mono (((b2).trans (b3.mono (b2).size))).size))).trans (b5.mono (((((b2).trans (b3.mono (b2).size))).trans (b4.mono (((b2).trans (b3.mono (b2).size))).size))).size))).size))).size))).size))
      refine wp_region_held_drew (S := fun w' => w'.cell? ⟨W1.heap.size, 0, none⟩ = some (.slice (some ⟨bt, ot, none⟩) l.length cap1) ∧ w'.cell? ⟨W1.heap.size, 1, none⟩ = some (.int .i64 (l.length : Int)) ∧ w'.cell? ⟨W1.heap.size, 2, none⟩ = some (.string (root l)) ∧ w'.cell? ⟨bt, ot + j, none⟩ = some (.string s)) (by kernel_rfl) ⟨c_l8_0, c_l8_1, c_l8_2, (ct.out _ (Below.drew E9))⟩ (fun hHeld => ?_)
      (refine wpAnyH_take (i := 0) (v := ?v0x93) rfl (by kernel_rfl) (by kernel_rfl) (by kernel_rfl) (fun _ _ _ h => h) (Or.inl ⟨by rfl, ?hy0x93⟩) (by assumption) ?rest0x93; case hy0x93 => (intro w hSw; (try dsimp only at hSw); go_split_ands; go_simp; (try with_reducible rfl)))
      try simp only [Act.put, List.setIfInBounds_toArray, List.set_cons_zero, List.set_cons_succ, List.getElem_toArray, List.getElem_cons_zero, List.getElem_cons_succ]
      (refine wpAnyH_take (i := 1) (v := ?v1x94) rfl (by kernel_rfl) (by kernel_rfl) (by kernel_rfl) (fun _ _ _ h => h) (Or.inl ⟨by rfl, ?hy1x94⟩) (by assumption) ?rest1x94; case hy1x94 => (intro w hSw; (try dsimp only at hSw); go_split_ands; go_simp; (try with_reducible rfl)))
      try simp only [Act.put, List.setIfInBounds_toArray, List.set_cons_zero, List.set_cons_succ, List.getElem_toArray, List.getElem_cons_zero, List.getElem_cons_succ]
      (refine wpAnyH_take (i := 2) (v := ?v2x95) rfl (by kernel_rfl) (by kernel_rfl) (by kernel_rfl) (fun _ _ _ h => h) (Or.inl ⟨by rfl, ?hy2x95⟩) (by assumption) ?rest2x95; case hy2x95 => (intro w hSw; (try dsimp only at hSw); go_split_ands; go_simp; (try with_reducible rfl)))
      try simp only [Act.put, List.setIfInBounds_toArray, List.set_cons_zero, List.set_cons_succ, List.getElem_toArray, List.getElem_cons_zero, List.getElem_cons_succ]
      (refine wpAnyH_take (i := 3) (v := ?v3x96) rfl (by kernel_rfl) (by kernel_rfl) (by kernel_rfl) (fun _ _ _ h => h) (Or.inl ⟨by rfl, ?hy3x96⟩) (by assumption) ?rest3x96; case hy3x96 => (intro w hSw; (try dsimp only at hSw); go_split_ands; go_simp; (try with_reducible rfl)))
      try simp only [Act.put, List.setIfInBounds_toArray, List.set_cons_zero, List.set_cons_succ, List.getElem_toArray, List.getElem_cons_zero, List.getElem_cons_succ]
      (refine wpAnyH_take (i := 4) (v := ?v4x97) rfl (by kernel_rfl) (by kernel_rfl) (by kernel_rfl) (fun _ _ _ h => h) (Or.inl ⟨by rfl, ?hy4x97⟩) (by assumption) ?rest4x97; case hy4x97 => (intro w hSw; (try dsimp only at hSw); go_split_ands; go_simp; (try with_reducible rfl)))
      try simp only [Act.put, List.setIfInBounds_toArray, List.set_cons_zero, List.set_cons_succ, List.getElem_toArray, List.getElem_cons_zero, List.getElem_cons_succ]
      (refine wpAnyH_take (i := 5) (v := ?v5x98) rfl (by kernel_rfl) (by kernel_rfl) (by kernel_rfl) (fun _ _ _ h => h) (Or.inl ⟨by rfl, ?hy5x98⟩) (by assumption) ?rest5x98; case hy5x98 => (intro w hSw; (try dsimp only at hSw); go_split_ands; go_simp; (try with_reducible rfl)))
      try simp only [Act.put, List.setIfInBounds_toArray, List.set_cons_zero, List.set_cons_succ, List.getElem_toArray, List.getElem_cons_zero, List.getElem_cons_succ]
      (refine wpAnyH_take (i := 6) (v := ?v6x99) rfl (by kernel_rfl) (by kernel_rfl) (by kernel_rfl) (fun _ _ _ h => h) (Or.inl ⟨by rfl, ?hy6x99⟩) (by assumption) ?rest6x99; case hy6x99 => (intro w hSw; (try dsimp only at hSw); go_split_ands; go_simp; (try with_reducible rfl)))
      try simp only [Act.put, List.setIfInBounds_toArray, List.set_cons_zero, List.set_cons_succ, List.getElem_toArray, List.getElem_cons_zero, List.getElem_cons_succ]
      (refine wpAnyH_take (i := 7) (v := ?v7x100) rfl (by kernel_rfl) (by kernel_rfl) (by kernel_rfl) (fun _ _ _ h => h) (Or.inl ⟨by rfl, ?hy7x100⟩) (by assumption) ?rest7x100; case hy7x100 => (intro w hSw; (try dsimp only at hSw); go_split_ands; go_simp; (try with_reducible rfl)))
      try simp only [Act.put, List.setIfInBounds_toArray, List.set_cons_zero, List.set_cons_succ, List.getElem_toArray, List.getElem_cons_zero, List.getElem_cons_succ]
      (refine wpAnyH_take (i := 8) (v := ?v8x101) rfl (by kernel_rfl) (by kernel_rfl) (by kernel_rfl) (fun _ _ _ h => h) (Or.inl ⟨by rfl, ?hy8x101⟩) (by assumption) ?rest8x101; case hy8x101 => (intro w hSw; (try dsimp only at hSw); go_split_ands; go_simp; (try with_reducible rfl)))
      try simp only [Act.put, List.setIfInBounds_toArray, List.set_cons_zero, List.set_cons_succ, List.getElem_toArray, List.getElem_cons_zero, List.getElem_cons_succ]
      (refine wpAnyH_take (i := 9) (v := ?v9x102) rfl (by kernel_rfl) (by kernel_rfl) (by kernel_rfl) (fun _ _ _ h => h) (Or.inl ⟨by rfl, ?hy9x102⟩) (by assumption) ?rest9x102; case hy9x102 => (intro w hSw; (try dsimp only at hSw); go_split_ands; go_simp; (try with_reducible rfl)))
      try simp only [Act.put, List.setIfInBounds_toArray, List.set_cons_zero, List.set_cons_succ, List.getElem_toArray, List.getElem_cons_zero, List.getElem_cons_succ]
      (refine wpAnyH_take (i := 10) (v := ?v10x103) rfl (by kernel_rfl) (by kernel_rfl) (by kernel_rfl) (fun _ _ _ h => h) (Or.inl ⟨by rfl, ?hy10x103⟩) (by assumption) ?rest10x103; case hy10x103 => (intro w hSw; (try dsimp only at hSw); go_split_ands; go_simp; (try with_reducible rfl)))
      try simp only [Act.put, List.setIfInBounds_toArray, List.set_cons_zero, List.set_cons_succ, List.getElem_toArray, List.getElem_cons_zero, List.getElem_cons_succ]
      (refine wpAnyH_take (i := 11) (v := ?v11x104) rfl (by kernel_rfl) (by kernel_rfl) (by kernel_rfl) (fun _ _ _ h => h) (Or.inl ⟨by rfl, ?hy11x104⟩) (by assumption) ?rest11x104; case hy11x104 => (intro w hSw; (try dsimp only at hSw); go_split_ands; go_simp; (try with_reducible rfl)))
      try simp only [Act.put, List.setIfInBounds_toArray, List.set_cons_zero, List.set_cons_succ, List.getElem_toArray, List.getElem_cons_zero, List.getElem_cons_succ]
      (refine wpAnyH_take (i := 12) (v := ?v12x105) rfl (by kernel_rfl) (by kernel_rfl) (by kernel_rfl) (fun _ _ _ h => h) (Or.inl ⟨by rfl, ?hy12x105⟩) (by assumption) ?rest12x105; case hy12x105 => (intro w hSw; (try dsimp only at hSw); go_split_ands; go_simp; (try with_reducible rfl)))
      try simp only [Act.put, List.setIfInBounds_toArray, List.set_cons_zero, List.set_cons_succ, List.getElem_toArray, List.getElem_cons_zero, List.getElem_cons_succ]
      (refine wpAnyH_take (i := 13) (v := ?v13x106) rfl (by kernel_rfl) (by kernel_rfl) (by kernel_rfl) (fun _ _ _ h => h) (Or.inl ⟨by rfl, ?hy13x106⟩) (by assumption) ?rest13x106; case hy13x106 => (intro w hSw; (try dsimp only at hSw); go_split_ands; go_simp; (try with_reducible rfl)))
      try simp only [Act.put, List.setIfInBounds_toArray, List.set_cons_zero, List.set_cons_succ, List.getElem_toArray, List.getElem_cons_zero, List.getElem_cons_succ]
      (refine wpAnyH_take (i := 14) (v := ?v14x107) rfl (by kernel_rfl) (by kernel_rfl) (by kernel_rfl) (fun _ _ _ h => h) (Or.inl ⟨by rfl, ?hy14x107⟩) (by assumption) ?rest14x107; case hy14x107 => (intro w hSw; (try dsimp only at hSw); go_split_ands; go_simp; (try with_reducible rfl)))
      try simp only [Act.put, List.setIfInBounds_toArray, List.set_cons_zero, List.set_cons_succ, List.getElem_toArray, List.getElem_cons_zero, List.getElem_cons_succ]
      (refine wpAnyH_take (i := 15) (v := ?v15x108) rfl (by kernel_rfl) (by kernel_rfl) (by kernel_rfl) (fun _ _ _ h => h) (Or.inl ⟨by rfl, ?hy15x108⟩) (by assumption) ?rest15x108; case hy15x108 => (intro w hSw; (try dsimp only at hSw); go_split_ands; go_simp; (try with_reducible rfl)))
      try simp only [Act.put, List.setIfInBounds_toArray, List.set_cons_zero, List.set_cons_succ, List.getElem_toArray, List.getElem_cons_zero, List.getElem_cons_succ]
      (refine wpAnyH_take (i := 16) (v := ?v16x109) rfl (by kernel_rfl) (by kernel_rfl) (by kernel_rfl) (fun _ _ _ h => h) (Or.inl ⟨by rfl, ?hy16x109⟩) (by assumption) ?rest16x109; case hy16x109 => (intro w hSw; (try dsimp only at hSw); go_split_ands; go_simp; (try with_reducible rfl)))
      try simp only [Act.put, List.setIfInBounds_toArray, List.set_cons_zero, List.set_cons_succ, List.getElem_toArray, List.getElem_cons_zero, List.getElem_cons_succ]
      (refine wpAnyH_take (i := 17) (v := ?v17x110) rfl (by kernel_rfl) (by kernel_rfl) (by kernel_rfl) (fun _ _ _ h => h) (Or.inl ⟨by rfl, ?hy17x110⟩) (by assumption) ?rest17x110; case hy17x110 => (intro w hSw; (try dsimp only at hSw); go_split_ands; go_simp; (try with_reducible rfl)))
      try simp only [Act.put, List.setIfInBounds_toArray, List.set_cons_zero, List.set_cons_succ, List.getElem_toArray, List.getElem_cons_zero, List.getElem_cons_succ]
      (refine wpAnyH_take (i := 18) (v := ?v18x111) rfl (by kernel_rfl) (by kernel_rfl) (by kernel_rfl) (fun _ _ _ h => h) (Or.inl ⟨by rfl, ?hy18x111⟩) (by assumption) ?rest18x111; case hy18x111 => (intro w hSw; (try dsimp only at hSw); go_split_ands; go_simp; (try with_reducible rfl)))
      try simp only [Act.put, List.setIfInBounds_toArray, List.set_cons_zero, List.set_cons_succ, List.getElem_toArray, List.getElem_cons_zero, List.getElem_cons_succ]
      (refine wpAnyH_take (i := 19) (v := ?v19x112) rfl (by kernel_rfl) (by kernel_rfl) (by kernel_rfl) (fun _ _ _ h => h) (Or.inl ⟨by rfl, ?hy19x112⟩) (by assumption) ?rest19x112; case hy19x112 => (intro w hSw; (try dsimp only at hSw); go_split_ands; go_simp; (try with_reducible rfl)))
      try simp only [Act.put, List.setIfInBounds_toArray, List.set_cons_zero, List.set_cons_succ, List.getElem_toArray, List.getElem_cons_zero, List.getElem_cons_succ]
      (refine wpAnyH_take (i := 20) (v := ?v20x113) rfl (by kernel_rfl) (by kernel_rfl) (by kernel_rfl) (fun _ _ _ h => h) (Or.inl ⟨by rfl, ?hy20x113⟩) (by assumption) ?rest20x113; case hy20x113 => (intro w hSw; (try dsimp only at hSw); go_split_ands; go_simp; (try with_reducible rfl)))
      try simp only [Act.put, List.setIfInBounds_toArray, List.set_cons_zero, List.set_cons_succ, List.getElem_toArray, List.getElem_cons_zero, List.getElem_cons_succ]
      (refine wpAnyH_take (i := 21) (v := ?v21x114) rfl (by kernel_rfl) (by kernel_rfl) (by kernel_rfl) (fun _ _ _ h => h) (Or.inl ⟨by rfl, ?hy21x114⟩) (by assumption) ?rest21x114; case hy21x114 => (intro w hSw; (try dsimp only at hSw); go_split_ands; go_simp; (try with_reducible rfl)))
      try simp only [Act.put, List.setIfInBounds_toArray, List.set_cons_zero, List.set_cons_succ, List.getElem_toArray, List.getElem_cons_zero, List.getElem_cons_succ]
      (refine wpAnyH_take (i := 22) (v := ?v22x115) rfl (by kernel_rfl) (by kernel_rfl) (by kernel_rfl) (fun _ _ _ h => h) (Or.inl ⟨by rfl, ?hy22x115⟩) (by assumption) ?rest22x115; case hy22x115 => (intro w hSw; (try dsimp only at hSw); go_split_ands; go_simp; (try with_reducible rfl)))
      try simp only [Act.put, List.setIfInBounds_toArray, List.set_cons_zero, List.set_cons_succ, List.getElem_toArray, List.getElem_cons_zero, List.getElem_cons_succ]
      (refine wpAnyH_take (i := 23) (v := ?v23x116) rfl (by kernel_rfl) (by kernel_rfl) (by kernel_rfl) (fun _ _ _ h => h) (Or.inl ⟨by rfl, ?hy23x116⟩) (by assumption) ?rest23x116; case hy23x116 => (intro w hSw; (try dsimp only at hSw); go_split_ands; go_simp; (try with_reducible rfl)))
      try simp only [Act.put, List.setIfInBounds_toArray, List.set_cons_zero, List.set_cons_succ, List.getElem_toArray, List.getElem_cons_zero, List.getElem_cons_succ]
      refine wpAnyH_ready (rs := [24]) (by kernel_rfl) (by simp) ?_
      refine AllReadyH.cons rfl (fun K hK => ?_) AllReadyH.nil
      go_simp
      refine (qck W8.drew _ (Below.drew B8.out) o_p8.out.sl).mono ?_
      rintro e W9 ⟨rfl, b9⟩
      have b9 : Below W8.heap.size W8 W9 := (Below.drew (Below.refl _ _)).trans b9
      refine hK.out _ _ ⟨(keepR (W := W8) hHeld.1 b9), (keepR (W := W8) hHeld.2.1 b9), (keepR (W := W8) hHeld.2.2.1 b9), (keepR (W := W8) hHeld.2.2.2 b9)⟩ (fun hHeld => ?_)
      clear hK K
      try simp only [Act.put, List.setIfInBounds_toArray, List.set_cons_zero, List.set_cons_succ, List.getElem_toArray, List.getElem_cons_zero, List.getElem_cons_succ]
      have z9 : W8.heap.size ≤ W9.heap.size := b9.size
      have B9 : Hid (Below w.heap.size w W9) := B8.out.trans (b9.mono B8.out.size)
      have r_l9 : Hid (W9.heap[W1.heap.size]? = some (.cells #[.slice (some ⟨bt, ot, none⟩) l.length cap1, .int .i64 (l.length : Int), .string (root l)] 28 (0, 0))) := rowKeep r_l8.out b9
      have r_gg9 : Hid (W9.heap[W5.heap.size]? = some (.cells #[.slice ao9 m.length cap9, .int .i64 hh.n, .string hh.r] 28 (0, 0))) := rowKeep r_gg8.out b9
      have o_p9 : Hid (Own W9 (W2.heap.size) (W3.heap.size) 9 (.slice ao_p L_p cap_p) (ss PP)) := Own.later o_p8.out b9 (by omega)
      have o_q9 : Hid (Own W9 (W6.heap.size) (W7.heap.size) 9 (.slice ao_q L_q cap_q) (ss [])) := Own.later o_q8.out b9 (by omega)
      have c_l9_0 : W9.cell? ⟨W1.heap.size, 0, none⟩ = some (.slice (some ⟨bt, ot, none⟩) l.length cap1) := row_at r_l9.out 0
      have c_l9_1 : W9.cell? ⟨W1.heap.size, 1, none⟩ = some (.int .i64 (l.length : Int)) := row_at r_l9.out 1
      have c_l9_2 : W9.cell? ⟨W1.heap.size, 2, none⟩ = some (.string (root l)) := row_at r_l9.out 2
      have c_gg9_0 : W9.cell? ⟨W5.heap.size, 0, none⟩ = some (.slice ao9 m.length cap9) := row_at r_gg9.out 0
      have c_gg9_1 : W9.cell? ⟨W5.heap.size, 1, none⟩ = some (.int .i64 hh.n) := row_at r_gg9.out 1
      have c_gg9_2 : W9.cell? ⟨W5.heap.size, 2, none⟩ = some (.string hh.r) := row_at r_gg9.out 2
      clear r_l8 c_l8_0 c_l8_1 c_l8_2 r_gg8 c_gg8_0 c_gg8_1 c_gg8_2 o_p8 o_q8
      (refine wpAnyH_take (i := 25) (v := ?v25x117) rfl (by kernel_rfl) (by kernel_rfl) (by kernel_rfl) (fun _ _ _ h => h) (Or.inl ⟨by rfl, ?hy25x117⟩) (by assumption) ?rest25x117; case hy25x117 => (intro w hSw; (try dsimp only at hSw); go_split_ands; go_simp; (try with_reducible rfl)))
      try simp only [Act.put, List.setIfInBounds_toArray, List.set_cons_zero, List.set_cons_succ, List.getElem_toArray, List.getElem_cons_zero, List.getElem_cons_succ]
      (refine wpAnyH_take (i := 26) (v := ?v26x118) rfl (by kernel_rfl) (by kernel_rfl) (by kernel_rfl) (fun _ _ _ h => h) (Or.inl ⟨by rfl, ?hy26x118⟩) (by assumption) ?rest26x118; case hy26x118 => (intro w hSw; (try dsimp only at hSw); go_split_ands; go_simp; (try with_reducible rfl)))
      try simp only [Act.put, List.setIfInBounds_toArray, List.set_cons_zero, List.set_cons_succ, List.getElem_toArray, List.getElem_cons_zero, List.getElem_cons_succ]
      (refine wpAnyH_take (i := 27) (v := ?v27x119) rfl (by kernel_rfl) (by kernel_rfl) (by kernel_rfl) (fun _ _ _ h => h) (Or.inl ⟨by rfl, ?hy27x119⟩) (by assumption) ?rest27x119; case hy27x119 => (intro w hSw; (try dsimp only at hSw); go_split_ands; go_simp; (try with_reducible rfl)))
      try simp only [Act.put, List.setIfInBounds_toArray, List.set_cons_zero, List.set_cons_succ, List.getElem_toArray, List.getElem_cons_zero, List.getElem_cons_succ]
      refine wpAnyH_done (by kernel_rfl) ?_ _
      clear hHeld
      go_wp2_with fail
      refine wp_region_held_drew (S := fun w' => w'.cell? ⟨W5.heap.size, 0, none⟩ = some (.slice ao9 m.length cap9) ∧ w'.cell? ⟨W5.heap.size, 1, none⟩ = some (.int .i64 hh.n) ∧ w'.cell? ⟨W5.heap.size, 2, none⟩ = some (.string hh.r)) (by kernel_rfl) ⟨c_gg9_0, c_gg9_1, c_gg9_2⟩ (fun hHeld => ?_)
      (refine wpAnyH_take (i := 0) (v := ?v0x120) rfl (by kernel_rfl) (by kernel_rfl) (by kernel_rfl) (fun _ _ _ h => h) (Or.inl ⟨by rfl, ?hy0x120⟩) (by assumption) ?rest0x120; case hy0x120 => (intro w hSw; (try dsimp only at hSw); go_split_ands; go_simp; (try with_reducible rfl)))
      try simp only [Act.put, List.setIfInBounds_toArray, List.set_cons_zero, List.set_cons_succ, List.getElem_toArray, List.getElem_cons_zero, List.getElem_cons_succ]
      (refine wpAnyH_take (i := 1) (v := ?v1x121) rfl (by kernel_rfl) (by kernel_rfl) (by kernel_rfl) (fun _ _ _ h => h) (Or.inl ⟨by rfl, ?hy1x121⟩) (by assumption) ?rest1x121; case hy1x121 => (intro w hSw; (try dsimp only at hSw); go_split_ands; go_simp; (try with_reducible rfl)))
      try simp only [Act.put, List.setIfInBounds_toArray, List.set_cons_zero, List.set_cons_succ, List.getElem_toArray, List.getElem_cons_zero, List.getElem_cons_succ]
      (refine wpAnyH_take (i := 2) (v := ?v2x122) rfl (by kernel_rfl) (by kernel_rfl) (by kernel_rfl) (fun _ _ _ h => h) (Or.inl ⟨by rfl, ?hy2x122⟩) (by assumption) ?rest2x122; case hy2x122 => (intro w hSw; (try dsimp only at hSw); go_split_ands; go_simp; (try with_reducible rfl)))
      try simp only [Act.put, List.setIfInBounds_toArray, List.set_cons_zero, List.set_cons_succ, List.getElem_toArray, List.getElem_cons_zero, List.getElem_cons_succ]
      (refine wpAnyH_take (i := 3) (v := undef) rfl (by kernel_rfl) (by kernel_rfl) (by kernel_rfl) (fun _ _ _ h => h) (Or.inr ⟨by rfl, rfl⟩) (by assumption) ?_)
      try simp only [Act.put, List.setIfInBounds_toArray, List.set_cons_zero, List.set_cons_succ, List.getElem_toArray, List.getElem_cons_zero, List.getElem_cons_succ]
      (refine wpAnyH_take (i := 4) (v := undef) rfl (by kernel_rfl) (by kernel_rfl) (by kernel_rfl) (fun _ _ _ h => h) (Or.inr ⟨by rfl, rfl⟩) (by assumption) ?_)
      try simp only [Act.put, List.setIfInBounds_toArray, List.set_cons_zero, List.set_cons_succ, List.getElem_toArray, List.getElem_cons_zero, List.getElem_cons_succ]
      (refine wpAnyH_take (i := 5) (v := undef) rfl (by kernel_rfl) (by kernel_rfl) (by kernel_rfl) (fun _ _ _ h => h) (Or.inr ⟨by rfl, rfl⟩) (by assumption) ?_)
      try simp only [Act.put, List.setIfInBounds_toArray, List.set_cons_zero, List.set_cons_succ, List.getElem_toArray, List.getElem_cons_zero, List.getElem_cons_succ]
      (refine wpAnyH_take (i := 6) (v := undef) rfl (by kernel_rfl) (by kernel_rfl) (by kernel_rfl) (fun _ _ _ h => h) (Or.inr ⟨by rfl, rfl⟩) (by assumption) ?_)
      try simp only [Act.put, List.setIfInBounds_toArray, List.set_cons_zero, List.set_cons_succ, List.getElem_toArray, List.getElem_cons_zero, List.getElem_cons_succ]
      (refine wpAnyH_take (i := 7) (v := undef) rfl (by kernel_rfl) (by kernel_rfl) (by kernel_rfl) (fun _ _ _ h => h) (Or.inr ⟨by rfl, rfl⟩) (by assumption) ?_)
      try simp only [Act.put, List.setIfInBounds_toArray, List.set_cons_zero, List.set_cons_succ, List.getElem_toArray, List.getElem_cons_zero, List.getElem_cons_succ]
      (refine wpAnyH_take (i := 8) (v := undef) rfl (by kernel_rfl) (by kernel_rfl) (by kernel_rfl) (fun _ _ _ h => h) (Or.inr ⟨by rfl, rfl⟩) (by assumption) ?_)
      try simp only [Act.put, List.setIfInBounds_toArray, List.set_cons_zero, List.set_cons_succ, List.getElem_toArray, List.getElem_cons_zero, List.getElem_cons_succ]
      (refine wpAnyH_take (i := 9) (v := undef) rfl (by kernel_rfl) (by kernel_rfl) (by kernel_rfl) (fun _ _ _ h => h) (Or.inr ⟨by rfl, rfl⟩) (by assumption) ?_)
      try simp only [Act.put, List.setIfInBounds_toArray, List.set_cons_zero, List.set_cons_succ, List.getElem_toArray, List.getElem_cons_zero, List.getElem_cons_succ]
      (refine wpAnyH_take (i := 10) (v := undef) rfl (by kernel_rfl) (by kernel_rfl) (by kernel_rfl) (fun _ _ _ h => h) (Or.inr ⟨by rfl, rfl⟩) (by assumption) ?_)
      try simp only [Act.put, List.setIfInBounds_toArray, List.set_cons_zero, List.set_cons_succ, List.getElem_toArray, List.getElem_cons_zero, List.getElem_cons_succ]
      (refine wpAnyH_take (i := 11) (v := undef) rfl (by kernel_rfl) (by kernel_rfl) (by kernel_rfl) (fun _ _ _ h => h) (Or.inr ⟨by rfl, rfl⟩) (by assumption) ?_)
      try simp only [Act.put, List.setIfInBounds_toArray, List.set_cons_zero, List.set_cons_succ, List.getElem_toArray, List.getElem_cons_zero, List.getElem_cons_succ]
      (refine wpAnyH_take (i := 12) (v := undef) rfl (by kernel_rfl) (by kernel_rfl) (by kernel_rfl) (fun _ _ _ h => h) (Or.inr ⟨by rfl, rfl⟩) (by assumption) ?_)
      try simp only [Act.put, List.setIfInBounds_toArray, List.set_cons_zero, List.set_cons_succ, List.getElem_toArray, List.getElem_cons_zero, List.getElem_cons_succ]
      (refine wpAnyH_take (i := 13) (v := undef) rfl (by kernel_rfl) (by kernel_rfl) (by kernel_rfl) (fun _ _ _ h => h) (Or.inr ⟨by rfl, rfl⟩) (by assumption) ?_)
      try simp only [Act.put, List.setIfInBounds_toArray, List.set_cons_zero, List.set_cons_succ, List.getElem_toArray, List.getElem_cons_zero, List.getElem_cons_succ]
      (refine wpAnyH_take (i := 14) (v := undef) rfl (by kernel_rfl) (by kernel_rfl) (by kernel_rfl) (fun _ _ _ h => h) (Or.inr ⟨by rfl, rfl⟩) (by assumption) ?_)
      try simp only [Act.put, List.setIfInBounds_toArray, List.set_cons_zero, List.set_cons_succ, List.getElem_toArray, List.getElem_cons_zero, List.getElem_cons_succ]
      (refine wpAnyH_take (i := 15) (v := undef) rfl (by kernel_rfl) (by kernel_rfl) (by kernel_rfl) (fun _ _ _ h => h) (Or.inr ⟨by rfl, rfl⟩) (by assumption) ?_)
      try simp only [Act.put, List.setIfInBounds_toArray, List.set_cons_zero, List.set_cons_succ, List.getElem_toArray, List.getElem_cons_zero, List.getElem_cons_succ]
      (refine wpAnyH_take (i := 16) (v := undef) rfl (by kernel_rfl) (by kernel_rfl) (by kernel_rfl) (fun _ _ _ h => h) (Or.inr ⟨by rfl, rfl⟩) (by assumption) ?_)
      try simp only [Act.put, List.setIfInBounds_toArray, List.set_cons_zero, List.set_cons_succ, List.getElem_toArray, List.getElem_cons_zero, List.getElem_cons_succ]
      (refine wpAnyH_take (i := 17) (v := ?v17x137) rfl (by kernel_rfl) (by kernel_rfl) (by kernel_rfl) (fun _ _ _ h => h) (Or.inl ⟨by rfl, ?hy17x137⟩) (by assumption) ?rest17x137; case hy17x137 => (intro w hSw; (try dsimp only at hSw); go_split_ands; go_simp; (try with_reducible rfl)))
      try simp only [Act.put, List.setIfInBounds_toArray, List.set_cons_zero, List.set_cons_succ, List.getElem_toArray, List.getElem_cons_zero, List.getElem_cons_succ]
      (refine wpAnyH_take (i := 18) (v := ?v18x138) rfl (by kernel_rfl) (by kernel_rfl) (by kernel_rfl) (fun _ _ _ h => h) (Or.inl ⟨by rfl, ?hy18x138⟩) (by assumption) ?rest18x138; case hy18x138 => (intro w hSw; (try dsimp only at hSw); go_split_ands; go_simp; (try with_reducible rfl)))
      try simp only [Act.put, List.setIfInBounds_toArray, List.set_cons_zero, List.set_cons_succ, List.getElem_toArray, List.getElem_cons_zero, List.getElem_cons_succ]
      refine wpAnyH_done (by kernel_rfl) ?_ _
      clear hHeld
      go_wp2
      go_ret
      exact ⟨rfl, Below.drew B9.out⟩
    · subst hy1
      subst hhq
      simp only [hq] at qPG qSG
      have qr0 : ∀ W v1, Below w.heap.size w W → Sl W v1 (ss (m.take n1)) → _ := fun W v1 hB hv => iRoot W hB v1 (m.take n1) hv (by rw [List.length_take]; omega) (fun s hs => by have := hms s (List.mem_of_mem_take hs); omega)
      have hro : rootOf (m.take n1) = root (m.take n1) := by unfold rootOf; rw [if_pos (by rw [List.length_take]; omega)]
      simp only [hro] at qr0
      have qroot := qr0
      have qcg : ∀ W v1, Below w.heap.size w W → Sl W v1 (ss (grow m n1 true)) → _ := fun W v1 hB hv => iCg W hB v1 (n1 : Int) (m.length : Int) (root (m.take n1)) (root m) (grow m n1 true) hv (by have := proveGrown_len m ⟨(m.length : Int), root m⟩ (n1 : Int); rw [hq] at this; exact this) (by rw [root_size]; omega) (by rw [root_size]; omega) (fun t ht => by have := grow_sizes m n1 true t ht; omega)
      simp only [(grown_facts hn3 hn1 hn2).1] at qcg
      obtain ⟨GG, hGG⟩ : ∃ GG, grow m n1 true = GG := ⟨_, rfl⟩
      obtain ⟨RT, hRT⟩ : ∃ RT, root (m.take n1) = RT := ⟨_, rfl⟩
      simp only [hGG, hRT] at qPG qSG qroot qcg
      clear hGG hRT hq hro qr0 iCg iRoot hms
      have a_l5_0 : ∀ o, (W5.alloc o).cell? ⟨W1.heap.size, 0, none⟩ = some (.slice (some ⟨bt, ot, none⟩) l.length cap1) := fun o => keepR c_l5_0 ((Below.refl _ _).alloc (Nat.le_refl _) o)
      have a_l5_1 : ∀ o, (W5.alloc o).cell? ⟨W1.heap.size, 1, none⟩ = some (.int .i64 (l.length : Int)) := fun o => keepR c_l5_1 ((Below.refl _ _).alloc (Nat.le_refl _) o)
      have a_l5_2 : ∀ o, (W5.alloc o).cell? ⟨W1.heap.size, 2, none⟩ = some (.string (root l)) := fun o => keepR c_l5_2 ((Below.refl _ _).alloc (Nat.le_refl _) o)
      obtain ⟨W6, HW6, b6, y6, hS6, r_gg6⟩ : ∃ X, Hid ((W5.alloc (.cells #[.slice ao9 m.length cap9, .int .i64 (m.length : Int), .string (root m)] 28)) = X) ∧ Below W5.heap.size W5 X ∧ W5.heap.size + 1 ≤ X.heap.size ∧ Hid (X.heap.size = W5.heap.size + 1) ∧ Hid (X.heap[W5.heap.size]? = some (.cells #[.slice ao9 m.length cap9, .int .i64 (m.length : Int), .string (root m)] 28 (0, 0))) := ⟨_, rfl, ((Below.refl _ _).alloc (Nat.le_refl _) _), by simp, by show _ = _; simp, (by show _ = _; exact alloc_nth1_0 W5 _)⟩
      have z6 : W5.heap.size ≤ W6.heap.size := b6.size
      have B6 : Hid (Below w.heap.size w W6) := B5.out.trans (b6.mono B5.out.size)
      have r_l6 : Hid (W6.heap[W1.heap.size]? = some (.cells #[.slice (some ⟨bt, ot, none⟩) l.length cap1, .int .i64 (l.length : Int), .string (root l)] 28 (0, 0))) := rowKeep r_l5.out b6
      have o_p6 : Hid (Own W6 (W2.heap.size) (W3.heap.size) 9 (.slice ao_p L_p cap_p) (ss PP)) := Own.later o_p5.out b6 (by omega)
      have c_l6_0 : W6.cell? ⟨W1.heap.size, 0, none⟩ = some (.slice (some ⟨bt, ot, none⟩) l.length cap1) := row_at r_l6.out 0
      have c_l6_1 : W6.cell? ⟨W1.heap.size, 1, none⟩ = some (.int .i64 (l.length : Int)) := row_at r_l6.out 1
      have c_l6_2 : W6.cell? ⟨W1.heap.size, 2, none⟩ = some (.string (root l)) := row_at r_l6.out 2
      have c_gg6_0 : W6.cell? ⟨W5.heap.size, 0, none⟩ = some (.slice ao9 m.length cap9) := row_at r_gg6.out 0
      have c_gg6_1 : W6.cell? ⟨W5.heap.size, 1, none⟩ = some (.int .i64 (m.length : Int)) := row_at r_gg6.out 1
      have c_gg6_2 : W6.cell? ⟨W5.heap.size, 2, none⟩ = some (.string (root m)) := row_at r_gg6.out 2
      clear r_l5 c_l5_0 c_l5_1 c_l5_2 o_p5
      go_wp2_with fail
      rw [HW6.out]
      clear a_l5_0 a_l5_1 a_l5_2
      refine (qPG W6 _ B6.out (HS9.out.later b6)).mono ?_
      rintro e W7 ⟨v_q, rfl, o_q7, b7⟩
      obtain ⟨ao_q, L_q, cap_q, rfl, hL_q, hM_q⟩ := o_q7.form
      have o_q7 : Hid (Own W7 W6.heap.size W7.heap.size 9 (.slice ao_q L_q cap_q) (ss GG)) := o_q7
      clear hL_q hM_q
      have z7 : W6.heap.size ≤ W7.heap.size := b7.size
      have B7 : Hid (Below w.heap.size w W7) := B6.out.trans (b7.mono B6.out.size)
      have r_l7 : Hid (W7.heap[W1.heap.size]? = some (.cells #[.slice (some ⟨bt, ot, none⟩) l.length cap1, .int .i64 (l.length : Int), .string (root l)] 28 (0, 0))) := rowKeep r_l6.out b7
      have r_gg7 : Hid (W7.heap[W5.heap.size]? = some (.cells #[.slice ao9 m.length cap9, .int .i64 (m.length : Int), .string (root m)] 28 (0, 0))) := rowKeep r_gg6.out b7
      have o_p7 : Hid (Own W7 (W2.heap.size) (W3.heap.size) 9 (.slice ao_p L_p cap_p) (ss PP)) := Own.later o_p6.out b7 (by omega)
      have c_l7_0 : W7.cell? ⟨W1.heap.size, 0, none⟩ = some (.slice (some ⟨bt, ot, none⟩) l.length cap1) := row_at r_l7.out 0
      have c_l7_1 : W7.cell? ⟨W1.heap.size, 1, none⟩ = some (.int .i64 (l.length : Int)) := row_at r_l7.out 1
      have c_l7_2 : W7.cell? ⟨W1.heap.size, 2, none⟩ = some (.string (root l)) := row_at r_l7.out 2
      have c_gg7_0 : W7.cell? ⟨W5.heap.size, 0, none⟩ = some (.slice ao9 m.length cap9) := row_at r_gg7.out 0
      have c_gg7_1 : W7.cell? ⟨W5.heap.size, 1, none⟩ = some (.int .i64 (m.length : Int)) := row_at r_gg7.out 1
      have c_gg7_2 : W7.cell? ⟨W5.heap.size, 2, none⟩ = some (.string (root m)) := row_at r_gg7.out 2
      clear r_l6 c_l6_0 c_l6_1 c_l6_2 r_gg6 c_gg6_0 c_gg6_1 c_gg6_2 o_p6
      go_wp2_with fail
      refine (qSG W7 _ (HS9.out.later (b6.trans (b7.mono b6.size)))).mono ?_
      rintro e W8 ⟨v_q2, rfl, o_q28, b8⟩
      obtain ⟨ao_q2, L_q2, cap_q2, rfl, hL_q2, hM_q2⟩ := o_q28.form
      have o_q28 : Hid (Own W8 W7.heap.size W8.heap.size 9 (.slice ao_q2 L_q2 cap_q2) (ss GG)) := o_q28
      clear hL_q2 hM_q2
      have z8 : W7.heap.size ≤ W8.heap.size := b8.size
      have B8 : Hid (Below w.heap.size w W8) := B7.out.trans (b8.mono B7.out.size)
      have r_l8 : Hid (W8.heap[W1.heap.size]? = some (.cells #[.slice (some ⟨bt, ot, none⟩) l.length cap1, .int .i64 (l.length : Int), .string (root l)] 28 (0, 0))) := rowKeep r_l7.out b8
      have r_gg8 : Hid (W8.heap[W5.heap.size]? = some (.cells #[.slice ao9 m.length cap9, .int .i64 (m.length : Int), .string (root m)] 28 (0, 0))) := rowKeep r_gg7.out b8
      have o_p8 : Hid (Own W8 (W2.heap.size) (W3.heap.size) 9 (.slice ao_p L_p cap_p) (ss PP)) := Own.later o_p7.out b8 (by omega)
      have o_q8 : Hid (Own W8 (W6.heap.size) (W7.heap.size) 9 (.slice ao_q L_q cap_q) (ss GG)) := Own.later o_q7.out b8 (by omega)
      have c_l8_0 : W8.cell? ⟨W1.heap.size, 0, none⟩ = some (.slice (some ⟨bt, ot, none⟩) l.length cap1) := row_at r_l8.out 0
      have c_l8_1 : W8.cell? ⟨W1.heap.size, 1, none⟩ = some (.int .i64 (l.length : Int)) := row_at r_l8.out 1
      have c_l8_2 : W8.cell? ⟨W1.heap.size, 2, none⟩ = some (.string (root l)) := row_at r_l8.out 2
      have c_gg8_0 : W8.cell? ⟨W5.heap.size, 0, none⟩ = some (.slice ao9 m.length cap9) := row_at r_gg8.out 0
      have c_gg8_1 : W8.cell? ⟨W5.heap.size, 1, none⟩ = some (.int .i64 (m.length : Int)) := row_at r_gg8.out 1
      have c_gg8_2 : W8.cell? ⟨W5.heap.size, 2, none⟩ = some (.string (root m)) := row_at r_gg8.out 2
      clear r_l7 c_l7_0 c_l7_1 c_l7_2 r_gg7 c_gg7_0 c_gg7_1 c_gg7_2 o_p7 o_q7
      clear o_q28
      clear qPG qSG
      have sfr : Hid (Sl W5 (.slice ao9 n1 cap9) (ss (m.take n1))) := by show Sl _ _ _; rw [← ss_take]; exact HS9.out.front n1 (by rw [ss_len]; omega)
      have g1 : (n1 : Int) ≤ (cap9 : Int) := by omega
      have g2 : (0 : Int) ≤ (n1 : Int) := by omega
      have sfr : Hid (∀ W, Below W5.heap.size W5 W → Sl W (.slice ao9 n1 cap9) (ss (m.take n1))) := fun W hW => sfr.out.later hW
      go_wp2_with fail
      have E9 : Below W1.heap.size W1 W8 := ((((((((((((b2).trans (b3.mono (b2).size))).trans (b4.mono (((b2).trans (b3.mono (b2).size))).size))).trans (b5.mono (((((b2).trans (b3.mono (b2).size))).trans (b4.mono (((b2).trans (b3.mono (b2).size))).size))).size))).trans (b6.mono (((((((b2).trans (b3.mono (b2).size))).trans (b4.mono (((b2).trans (b3.mono (b2).size))).size))).trans (b5.mono (((((b2).trans (b3.mono (b2).size))).trans (b4.mono (((b2).trans (b3.mono (b2).size))).size))).size))).size))).trans (b7.mono (((((((((b2).trans (b3.mono (b2).size))).trans (b4.mono (((b2).trans (b3.mono (b2).size))).size))).trans (b5.mono (((((b2).trans (b3.mono (b2).size))).trans (b4.mono (((b2).trans (b3.mono (b2).size))).size))).size))).trans (b6.mono (((((((b2).trans (b3.mono (b2).size))).trans (b4.mono (((b2).trans (b3.mono (b2).size))).size))).trans (b5.mono (((((b2).trans (b3.mono (b2).size))).trans (b4.mono (((b2).trans (b3.mono (b2).size))).size))).size))).size))).size))).trans (b8.mono (((((((((((b2).trans (b3.mono (b2).size))).trans (b4.mono (((b2).trans (b3.mono (b2).size))).size))).trans (b5.mono (((((b2).trans (b3.mono (b2).size))).trans (b4.mono (((b2).trans (b3.mono (b2).size))).size))).size))).trans (b6.mono (((((((b2).trans (b3.mono (b2).size))).trans (b4.mono (((b2).trans (b3.mono (b2).size))).size))).trans (b5.mono (((((b2).trans (b3.mono (b2).size))).trans (b4.mono (((b2).trans (b3.mono (b2).size))).size))).size))).size))).trans (b7.mono (((((((((b2).trans (b3.mono (b2).size))).trans (b4.mono (((b2).trans (b3.mono (b2).size))).size))).trans (b5.mono (((((b2).trans (b3.mono (b2).size))).trans (b4.mono (((b2).trans (b3.mono (b2).size))).size))).size))).trans (b6.mono (((((((b2).trans (b3.mono (b2).size))).trans (b4.mono (((b2).trans (b3.mono (b2).size))).size))).trans (b5.mono (((((b2).trans (b3.mono (b2).size))).trans (b4.mono (((b2).trans (b3.mono (b2).size))).size))).size))).size))).size))).size))
      refine wp_region_held_drew (S := fun w' => w'.cell? ⟨W1.heap.size, 0, none⟩ = some (.slice (some ⟨bt, ot, none⟩) l.length cap1) ∧ w'.cell? ⟨W1.heap.size, 1, none⟩ = some (.int .i64 (l.length : Int)) ∧ w'.cell? ⟨W1.heap.size, 2, none⟩ = some (.string (root l)) ∧ w'.cell? ⟨bt, ot + j, none⟩ = some (.string s)) (by kernel_rfl) ⟨c_l8_0, c_l8_1, c_l8_2, (ct.out _ (Below.drew E9))⟩ (fun hHeld => ?_)
      (refine wpAnyH_take (i := 0) (v := ?v0x139) rfl (by kernel_rfl) (by kernel_rfl) (by kernel_rfl) (fun _ _ _ h => h) (Or.inl ⟨by rfl, ?hy0x139⟩) (by assumption) ?rest0x139; case hy0x139 => (intro w hSw; (try dsimp only at hSw); go_split_ands; go_simp; (try with_reducible rfl)))
      try simp only [Act.put, List.setIfInBounds_toArray, List.set_cons_zero, List.set_cons_succ, List.getElem_toArray, List.getElem_cons_zero, List.getElem_cons_succ]
      (refine wpAnyH_take (i := 1) (v := ?v1x140) rfl (by kernel_rfl) (by kernel_rfl) (by kernel_rfl) (fun _ _ _ h => h) (Or.inl ⟨by rfl, ?hy1x140⟩) (by assumption) ?rest1x140; case hy1x140 => (intro w hSw; (try dsimp only at hSw); go_split_ands; go_simp; (try with_reducible rfl)))
      try simp only [Act.put, List.setIfInBounds_toArray, List.set_cons_zero, List.set_cons_succ, List.getElem_toArray, List.getElem_cons_zero, List.getElem_cons_succ]
      (refine wpAnyH_take (i := 2) (v := ?v2x141) rfl (by kernel_rfl) (by kernel_rfl) (by kernel_rfl) (fun _ _ _ h => h) (Or.inl ⟨by rfl, ?hy2x141⟩) (by assumption) ?rest2x141; case hy2x141 => (intro w hSw; (try dsimp only at hSw); go_split_ands; go_simp; (try with_reducible rfl)))
      try simp only [Act.put, List.setIfInBounds_toArray, List.set_cons_zero, List.set_cons_succ, List.getElem_toArray, List.getElem_cons_zero, List.getElem_cons_succ]
      (refine wpAnyH_take (i := 3) (v := ?v3x142) rfl (by kernel_rfl) (by kernel_rfl) (by kernel_rfl) (fun _ _ _ h => h) (Or.inl ⟨by rfl, ?hy3x142⟩) (by assumption) ?rest3x142; case hy3x142 => (intro w hSw; (try dsimp only at hSw); go_split_ands; go_simp; (try with_reducible rfl)))
      try simp only [Act.put, List.setIfInBounds_toArray, List.set_cons_zero, List.set_cons_succ, List.getElem_toArray, List.getElem_cons_zero, List.getElem_cons_succ]
      (refine wpAnyH_take (i := 4) (v := ?v4x143) rfl (by kernel_rfl) (by kernel_rfl) (by kernel_rfl) (fun _ _ _ h => h) (Or.inl ⟨by rfl, ?hy4x143⟩) (by assumption) ?rest4x143; case hy4x143 => (intro w hSw; (try dsimp only at hSw); go_split_ands; go_simp; (try with_reducible rfl)))
      try simp only [Act.put, List.setIfInBounds_toArray, List.set_cons_zero, List.set_cons_succ, List.getElem_toArray, List.getElem_cons_zero, List.getElem_cons_succ]
      (refine wpAnyH_take (i := 5) (v := ?v5x144) rfl (by kernel_rfl) (by kernel_rfl) (by kernel_rfl) (fun _ _ _ h => h) (Or.inl ⟨by rfl, ?hy5x144⟩) (by assumption) ?rest5x144; case hy5x144 => (intro w hSw; (try dsimp only at hSw); go_split_ands; go_simp; (try with_reducible rfl)))
      try simp only [Act.put, List.setIfInBounds_toArray, List.set_cons_zero, List.set_cons_succ, List.getElem_toArray, List.getElem_cons_zero, List.getElem_cons_succ]
      (refine wpAnyH_take (i := 6) (v := ?v6x145) rfl (by kernel_rfl) (by kernel_rfl) (by kernel_rfl) (fun _ _ _ h => h) (Or.inl ⟨by rfl, ?hy6x145⟩) (by assumption) ?rest6x145; case hy6x145 => (intro w hSw; (try dsimp only at hSw); go_split_ands; go_simp; (try with_reducible rfl)))
      try simp only [Act.put, List.setIfInBounds_toArray, List.set_cons_zero, List.set_cons_succ, List.getElem_toArray, List.getElem_cons_zero, List.getElem_cons_succ]
      (refine wpAnyH_take (i := 7) (v := ?v7x146) rfl (by kernel_rfl) (by kernel_rfl) (by kernel_rfl) (fun _ _ _ h => h) (Or.inl ⟨by rfl, ?hy7x146⟩) (by assumption) ?rest7x146; case hy7x146 => (intro w hSw; (try dsimp only at hSw); go_split_ands; go_simp; (try with_reducible rfl)))
      try simp only [Act.put, List.setIfInBounds_toArray, List.set_cons_zero, List.set_cons_succ, List.getElem_toArray, List.getElem_cons_zero, List.getElem_cons_succ]
      (refine wpAnyH_take (i := 8) (v := ?v8x147) rfl (by kernel_rfl) (by kernel_rfl) (by kernel_rfl) (fun _ _ _ h => h) (Or.inl ⟨by rfl, ?hy8x147⟩) (by assumption) ?rest8x147; case hy8x147 => (intro w hSw; (try dsimp only at hSw); go_split_ands; go_simp; (try with_reducible rfl)))
      try simp only [Act.put, List.setIfInBounds_toArray, List.set_cons_zero, List.set_cons_succ, List.getElem_toArray, List.getElem_cons_zero, List.getElem_cons_succ]
      (refine wpAnyH_take (i := 9) (v := ?v9x148) rfl (by kernel_rfl) (by kernel_rfl) (by kernel_rfl) (fun _ _ _ h => h) (Or.inl ⟨by rfl, ?hy9x148⟩) (by assumption) ?rest9x148; case hy9x148 => (intro w hSw; (try dsimp only at hSw); go_split_ands; go_simp; (try with_reducible rfl)))
      try simp only [Act.put, List.setIfInBounds_toArray, List.set_cons_zero, List.set_cons_succ, List.getElem_toArray, List.getElem_cons_zero, List.getElem_cons_succ]
      (refine wpAnyH_take (i := 10) (v := ?v10x149) rfl (by kernel_rfl) (by kernel_rfl) (by kernel_rfl) (fun _ _ _ h => h) (Or.inl ⟨by rfl, ?hy10x149⟩) (by assumption) ?rest10x149; case hy10x149 => (intro w hSw; (try dsimp only at hSw); go_split_ands; go_simp; (try with_reducible rfl)))
      try simp only [Act.put, List.setIfInBounds_toArray, List.set_cons_zero, List.set_cons_succ, List.getElem_toArray, List.getElem_cons_zero, List.getElem_cons_succ]
      (refine wpAnyH_take (i := 11) (v := ?v11x150) rfl (by kernel_rfl) (by kernel_rfl) (by kernel_rfl) (fun _ _ _ h => h) (Or.inl ⟨by rfl, ?hy11x150⟩) (by assumption) ?rest11x150; case hy11x150 => (intro w hSw; (try dsimp only at hSw); go_split_ands; go_simp; (try with_reducible rfl)))
      try simp only [Act.put, List.setIfInBounds_toArray, List.set_cons_zero, List.set_cons_succ, List.getElem_toArray, List.getElem_cons_zero, List.getElem_cons_succ]
      (refine wpAnyH_take (i := 12) (v := ?v12x151) rfl (by kernel_rfl) (by kernel_rfl) (by kernel_rfl) (fun _ _ _ h => h) (Or.inl ⟨by rfl, ?hy12x151⟩) (by assumption) ?rest12x151; case hy12x151 => (intro w hSw; (try dsimp only at hSw); go_split_ands; go_simp; (try with_reducible rfl)))
      try simp only [Act.put, List.setIfInBounds_toArray, List.set_cons_zero, List.set_cons_succ, List.getElem_toArray, List.getElem_cons_zero, List.getElem_cons_succ]
      (refine wpAnyH_take (i := 13) (v := ?v13x152) rfl (by kernel_rfl) (by kernel_rfl) (by kernel_rfl) (fun _ _ _ h => h) (Or.inl ⟨by rfl, ?hy13x152⟩) (by assumption) ?rest13x152; case hy13x152 => (intro w hSw; (try dsimp only at hSw); go_split_ands; go_simp; (try with_reducible rfl)))
      try simp only [Act.put, List.setIfInBounds_toArray, List.set_cons_zero, List.set_cons_succ, List.getElem_toArray, List.getElem_cons_zero, List.getElem_cons_succ]
      (refine wpAnyH_take (i := 14) (v := ?v14x153) rfl (by kernel_rfl) (by kernel_rfl) (by kernel_rfl) (fun _ _ _ h => h) (Or.inl ⟨by rfl, ?hy14x153⟩) (by assumption) ?rest14x153; case hy14x153 => (intro w hSw; (try dsimp only at hSw); go_split_ands; go_simp; (try with_reducible rfl)))
      try simp only [Act.put, List.setIfInBounds_toArray, List.set_cons_zero, List.set_cons_succ, List.getElem_toArray, List.getElem_cons_zero, List.getElem_cons_succ]
      (refine wpAnyH_take (i := 15) (v := ?v15x154) rfl (by kernel_rfl) (by kernel_rfl) (by kernel_rfl) (fun _ _ _ h => h) (Or.inl ⟨by rfl, ?hy15x154⟩) (by assumption) ?rest15x154; case hy15x154 => (intro w hSw; (try dsimp only at hSw); go_split_ands; go_simp; (try with_reducible rfl)))
      try simp only [Act.put, List.setIfInBounds_toArray, List.set_cons_zero, List.set_cons_succ, List.getElem_toArray, List.getElem_cons_zero, List.getElem_cons_succ]
      (refine wpAnyH_take (i := 16) (v := ?v16x155) rfl (by kernel_rfl) (by kernel_rfl) (by kernel_rfl) (fun _ _ _ h => h) (Or.inl ⟨by rfl, ?hy16x155⟩) (by assumption) ?rest16x155; case hy16x155 => (intro w hSw; (try dsimp only at hSw); go_split_ands; go_simp; (try with_reducible rfl)))
      try simp only [Act.put, List.setIfInBounds_toArray, List.set_cons_zero, List.set_cons_succ, List.getElem_toArray, List.getElem_cons_zero, List.getElem_cons_succ]
      (refine wpAnyH_take (i := 17) (v := ?v17x156) rfl (by kernel_rfl) (by kernel_rfl) (by kernel_rfl) (fun _ _ _ h => h) (Or.inl ⟨by rfl, ?hy17x156⟩) (by assumption) ?rest17x156; case hy17x156 => (intro w hSw; (try dsimp only at hSw); go_split_ands; go_simp; (try with_reducible rfl)))
      try simp only [Act.put, List.setIfInBounds_toArray, List.set_cons_zero, List.set_cons_succ, List.getElem_toArray, List.getElem_cons_zero, List.getElem_cons_succ]
      (refine wpAnyH_take (i := 18) (v := ?v18x157) rfl (by kernel_rfl) (by kernel_rfl) (by kernel_rfl) (fun _ _ _ h => h) (Or.inl ⟨by rfl, ?hy18x157⟩) (by assumption) ?rest18x157; case hy18x157 => (intro w hSw; (try dsimp only at hSw); go_split_ands; go_simp; (try with_reducible rfl)))
      try simp only [Act.put, List.setIfInBounds_toArray, List.set_cons_zero, List.set_cons_succ, List.getElem_toArray, List.getElem_cons_zero, List.getElem_cons_succ]
      (refine wpAnyH_take (i := 19) (v := ?v19x158) rfl (by kernel_rfl) (by kernel_rfl) (by kernel_rfl) (fun _ _ _ h => h) (Or.inl ⟨by rfl, ?hy19x158⟩) (by assumption) ?rest19x158; case hy19x158 => (intro w hSw; (try dsimp only at hSw); go_split_ands; go_simp; (try with_reducible rfl)))
      try simp only [Act.put, List.setIfInBounds_toArray, List.set_cons_zero, List.set_cons_succ, List.getElem_toArray, List.getElem_cons_zero, List.getElem_cons_succ]
      (refine wpAnyH_take (i := 20) (v := ?v20x159) rfl (by kernel_rfl) (by kernel_rfl) (by kernel_rfl) (fun _ _ _ h => h) (Or.inl ⟨by rfl, ?hy20x159⟩) (by assumption) ?rest20x159; case hy20x159 => (intro w hSw; (try dsimp only at hSw); go_split_ands; go_simp; (try with_reducible rfl)))
      try simp only [Act.put, List.setIfInBounds_toArray, List.set_cons_zero, List.set_cons_succ, List.getElem_toArray, List.getElem_cons_zero, List.getElem_cons_succ]
      (refine wpAnyH_take (i := 21) (v := ?v21x160) rfl (by kernel_rfl) (by kernel_rfl) (by kernel_rfl) (fun _ _ _ h => h) (Or.inl ⟨by rfl, ?hy21x160⟩) (by assumption) ?rest21x160; case hy21x160 => (intro w hSw; (try dsimp only at hSw); go_split_ands; go_simp; (try with_reducible rfl)))
      try simp only [Act.put, List.setIfInBounds_toArray, List.set_cons_zero, List.set_cons_succ, List.getElem_toArray, List.getElem_cons_zero, List.getElem_cons_succ]
      (refine wpAnyH_take (i := 22) (v := ?v22x161) rfl (by kernel_rfl) (by kernel_rfl) (by kernel_rfl) (fun _ _ _ h => h) (Or.inl ⟨by rfl, ?hy22x161⟩) (by assumption) ?rest22x161; case hy22x161 => (intro w hSw; (try dsimp only at hSw); go_split_ands; go_simp; (try with_reducible rfl)))
      try simp only [Act.put, List.setIfInBounds_toArray, List.set_cons_zero, List.set_cons_succ, List.getElem_toArray, List.getElem_cons_zero, List.getElem_cons_succ]
      (refine wpAnyH_take (i := 23) (v := ?v23x162) rfl (by kernel_rfl) (by kernel_rfl) (by kernel_rfl) (fun _ _ _ h => h) (Or.inl ⟨by rfl, ?hy23x162⟩) (by assumption) ?rest23x162; case hy23x162 => (intro w hSw; (try dsimp only at hSw); go_split_ands; go_simp; (try with_reducible rfl)))
      try simp only [Act.put, List.setIfInBounds_toArray, List.set_cons_zero, List.set_cons_succ, List.getElem_toArray, List.getElem_cons_zero, List.getElem_cons_succ]
      refine wpAnyH_ready (rs := [24]) (by kernel_rfl) (by simp) ?_
      refine AllReadyH.cons rfl (fun K hK => ?_) AllReadyH.nil
      go_simp
      refine (qck W8.drew _ (Below.drew B8.out) o_p8.out.sl).mono ?_
      rintro e W9 ⟨rfl, b9⟩
      have b9 : Below W8.heap.size W8 W9 := (Below.drew (Below.refl _ _)).trans b9
      refine hK.out _ _ ⟨(keepR (W := W8) hHeld.1 b9), (keepR (W := W8) hHeld.2.1 b9), (keepR (W := W8) hHeld.2.2.1 b9), (keepR (W := W8) hHeld.2.2.2 b9)⟩ (fun hHeld => ?_)
      clear hK K
      try simp only [Act.put, List.setIfInBounds_toArray, List.set_cons_zero, List.set_cons_succ, List.getElem_toArray, List.getElem_cons_zero, List.getElem_cons_succ]
      have z9 : W8.heap.size ≤ W9.heap.size := b9.size
      have B9 : Hid (Below w.heap.size w W9) := B8.out.trans (b9.mono B8.out.size)
      have r_l9 : Hid (W9.heap[W1.heap.size]? = some (.cells #[.slice (some ⟨bt, ot, none⟩) l.length cap1, .int .i64 (l.length : Int), .string (root l)] 28 (0, 0))) := rowKeep r_l8.out b9
      have r_gg9 : Hid (W9.heap[W5.heap.size]? = some (.cells #[.slice ao9 m.length cap9, .int .i64 (m.length : Int), .string (root m)] 28 (0, 0))) := rowKeep r_gg8.out b9
      have o_p9 : Hid (Own W9 (W2.heap.size) (W3.heap.size) 9 (.slice ao_p L_p cap_p) (ss PP)) := Own.later o_p8.out b9 (by omega)
      have o_q9 : Hid (Own W9 (W6.heap.size) (W7.heap.size) 9 (.slice ao_q L_q cap_q) (ss GG)) := Own.later o_q8.out b9 (by omega)
      have c_l9_0 : W9.cell? ⟨W1.heap.size, 0, none⟩ = some (.slice (some ⟨bt, ot, none⟩) l.length cap1) := row_at r_l9.out 0
      have c_l9_1 : W9.cell? ⟨W1.heap.size, 1, none⟩ = some (.int .i64 (l.length : Int)) := row_at r_l9.out 1
      have c_l9_2 : W9.cell? ⟨W1.heap.size, 2, none⟩ = some (.string (root l)) := row_at r_l9.out 2
      have c_gg9_0 : W9.cell? ⟨W5.heap.size, 0, none⟩ = some (.slice ao9 m.length cap9) := row_at r_gg9.out 0
      have c_gg9_1 : W9.cell? ⟨W5.heap.size, 1, none⟩ = some (.int .i64 (m.length : Int)) := row_at r_gg9.out 1
      have c_gg9_2 : W9.cell? ⟨W5.heap.size, 2, none⟩ = some (.string (root m)) := row_at r_gg9.out 2
      clear r_l8 c_l8_0 c_l8_1 c_l8_2 r_gg8 c_gg8_0 c_gg8_1 c_gg8_2 o_p8 o_q8
      (refine wpAnyH_take (i := 25) (v := ?v25x163) rfl (by kernel_rfl) (by kernel_rfl) (by kernel_rfl) (fun _ _ _ h => h) (Or.inl ⟨by rfl, ?hy25x163⟩) (by assumption) ?rest25x163; case hy25x163 => (intro w hSw; (try dsimp only at hSw); go_split_ands; go_simp; (try with_reducible rfl)))
      try simp only [Act.put, List.setIfInBounds_toArray, List.set_cons_zero, List.set_cons_succ, List.getElem_toArray, List.getElem_cons_zero, List.getElem_cons_succ]
      (refine wpAnyH_take (i := 26) (v := ?v26x164) rfl (by kernel_rfl) (by kernel_rfl) (by kernel_rfl) (fun _ _ _ h => h) (Or.inl ⟨by rfl, ?hy26x164⟩) (by assumption) ?rest26x164; case hy26x164 => (intro w hSw; (try dsimp only at hSw); go_split_ands; go_simp; (try with_reducible rfl)))
      try simp only [Act.put, List.setIfInBounds_toArray, List.set_cons_zero, List.set_cons_succ, List.getElem_toArray, List.getElem_cons_zero, List.getElem_cons_succ]
      (refine wpAnyH_take (i := 27) (v := ?v27x165) rfl (by kernel_rfl) (by kernel_rfl) (by kernel_rfl) (fun _ _ _ h => h) (Or.inl ⟨by rfl, ?hy27x165⟩) (by assumption) ?rest27x165; case hy27x165 => (intro w hSw; (try dsimp only at hSw); go_split_ands; go_simp; (try with_reducible rfl)))
      try simp only [Act.put, List.setIfInBounds_toArray, List.set_cons_zero, List.set_cons_succ, List.getElem_toArray, List.getElem_cons_zero, List.getElem_cons_succ]
      refine wpAnyH_done (by kernel_rfl) ?_ _
      clear hHeld
      go_wp2_with fail
      refine wp_region_held_drew (S := fun w' => w'.cell? ⟨W5.heap.size, 0, none⟩ = some (.slice ao9 m.length cap9) ∧ w'.cell? ⟨W5.heap.size, 1, none⟩ = some (.int .i64 (m.length : Int)) ∧ w'.cell? ⟨W5.heap.size, 2, none⟩ = some (.string (root m))) (by kernel_rfl) ⟨c_gg9_0, c_gg9_1, c_gg9_2⟩ (fun hHeld => ?_)
      (refine wpAnyH_take (i := 0) (v := ?v0x166) rfl (by kernel_rfl) (by kernel_rfl) (by kernel_rfl) (fun _ _ _ h => h) (Or.inl ⟨by rfl, ?hy0x166⟩) (by assumption) ?rest0x166; case hy0x166 => (intro w hSw; (try dsimp only at hSw); go_split_ands; go_simp; (try with_reducible rfl)))
      try simp only [Act.put, List.setIfInBounds_toArray, List.set_cons_zero, List.set_cons_succ, List.getElem_toArray, List.getElem_cons_zero, List.getElem_cons_succ]
      (refine wpAnyH_take (i := 1) (v := ?v1x167) rfl (by kernel_rfl) (by kernel_rfl) (by kernel_rfl) (fun _ _ _ h => h) (Or.inl ⟨by rfl, ?hy1x167⟩) (by assumption) ?rest1x167; case hy1x167 => (intro w hSw; (try dsimp only at hSw); go_split_ands; go_simp; (try with_reducible rfl)))
      try simp only [Act.put, List.setIfInBounds_toArray, List.set_cons_zero, List.set_cons_succ, List.getElem_toArray, List.getElem_cons_zero, List.getElem_cons_succ]
      (refine wpAnyH_take (i := 2) (v := ?v2x168) rfl (by kernel_rfl) (by kernel_rfl) (by kernel_rfl) (fun _ _ _ h => h) (Or.inl ⟨by rfl, ?hy2x168⟩) (by assumption) ?rest2x168; case hy2x168 => (intro w hSw; (try dsimp only at hSw); go_split_ands; go_simp; (try with_reducible rfl)))
      try simp only [Act.put, List.setIfInBounds_toArray, List.set_cons_zero, List.set_cons_succ, List.getElem_toArray, List.getElem_cons_zero, List.getElem_cons_succ]
      (refine wpAnyH_take (i := 3) (v := ?v3x169) rfl (by kernel_rfl) (by kernel_rfl) (by kernel_rfl) (fun _ _ _ h => h) (Or.inl ⟨by rfl, ?hy3x169⟩) (by assumption) ?rest3x169; case hy3x169 => (intro w hSw; (try dsimp only at hSw); go_split_ands; go_simp; (try with_reducible rfl)))
      try simp only [Act.put, List.setIfInBounds_toArray, List.set_cons_zero, List.set_cons_succ, List.getElem_toArray, List.getElem_cons_zero, List.getElem_cons_succ]
      (refine wpAnyH_take (i := 4) (v := ?v4x170) rfl (by kernel_rfl) (by kernel_rfl) (by kernel_rfl) (fun _ _ _ h => h) (Or.inl ⟨by rfl, ?hy4x170⟩) (by assumption) ?rest4x170; case hy4x170 => (intro w hSw; (try dsimp only at hSw); go_split_ands; go_simp; (try with_reducible rfl)))
      try simp only [Act.put, List.setIfInBounds_toArray, List.set_cons_zero, List.set_cons_succ, List.getElem_toArray, List.getElem_cons_zero, List.getElem_cons_succ]
      (refine wpAnyH_take (i := 5) (v := ?v5x171) rfl (by kernel_rfl) (by kernel_rfl) (by kernel_rfl) (fun _ _ _ h => h) (Or.inl ⟨by rfl, ?hy5x171⟩) (by assumption) ?rest5x171; case hy5x171 => (intro w hSw; (try dsimp only at hSw); go_split_ands; go_simp; (try with_reducible rfl)))
      try simp only [Act.put, List.setIfInBounds_toArray, List.set_cons_zero, List.set_cons_succ, List.getElem_toArray, List.getElem_cons_zero, List.getElem_cons_succ]
      (refine wpAnyH_take (i := 6) (v := ?v6x172) rfl (by kernel_rfl) (by kernel_rfl) (by kernel_rfl) (fun _ _ _ h => h) (Or.inl ⟨by rfl, ?hy6x172⟩) (by assumption) ?rest6x172; case hy6x172 => (intro w hSw; (try dsimp only at hSw); go_split_ands; go_simp; (try with_reducible rfl)))
      try simp only [Act.put, List.setIfInBounds_toArray, List.set_cons_zero, List.set_cons_succ, List.getElem_toArray, List.getElem_cons_zero, List.getElem_cons_succ]
      (refine wpAnyH_take (i := 7) (v := ?v7x173) rfl (by kernel_rfl) (by kernel_rfl) (by kernel_rfl) (fun _ _ _ h => h) (Or.inl ⟨by rfl, ?hy7x173⟩) (by assumption) ?rest7x173; case hy7x173 => (intro w hSw; (try dsimp only at hSw); go_split_ands; go_simp; (try with_reducible rfl)))
      try simp only [Act.put, List.setIfInBounds_toArray, List.set_cons_zero, List.set_cons_succ, List.getElem_toArray, List.getElem_cons_zero, List.getElem_cons_succ]
      (refine wpAnyH_take (i := 8) (v := ?v8x174) rfl (by kernel_rfl) (by kernel_rfl) (by kernel_rfl) (fun _ _ _ h => h) (Or.inl ⟨by rfl, ?hy8x174⟩) (by assumption) ?rest8x174; case hy8x174 => (intro w hSw; (try dsimp only at hSw); go_split_ands; go_simp; (try with_reducible rfl)))
      try simp only [Act.put, List.setIfInBounds_toArray, List.set_cons_zero, List.set_cons_succ, List.getElem_toArray, List.getElem_cons_zero, List.getElem_cons_succ]
      (refine wpAnyH_take (i := 9) (v := ?v9x175) rfl (by kernel_rfl) (by kernel_rfl) (by kernel_rfl) (fun _ _ _ h => h) (Or.inl ⟨by rfl, ?hy9x175⟩) (by assumption) ?rest9x175; case hy9x175 => (intro w hSw; (try dsimp only at hSw); go_split_ands; go_simp; (try with_reducible rfl)))
      try simp only [Act.put, List.setIfInBounds_toArray, List.set_cons_zero, List.set_cons_succ, List.getElem_toArray, List.getElem_cons_zero, List.getElem_cons_succ]
      (refine wpAnyH_take (i := 10) (v := ?v10x176) rfl (by kernel_rfl) (by kernel_rfl) (by kernel_rfl) (fun _ _ _ h => h) (Or.inl ⟨by rfl, ?hy10x176⟩) (by assumption) ?rest10x176; case hy10x176 => (intro w hSw; (try dsimp only at hSw); go_split_ands; go_simp; (try with_reducible rfl)))
      try simp only [Act.put, List.setIfInBounds_toArray, List.set_cons_zero, List.set_cons_succ, List.getElem_toArray, List.getElem_cons_zero, List.getElem_cons_succ]
      (refine wpAnyH_take (i := 12) (v := ?v12x177) rfl (by kernel_rfl) (by kernel_rfl) (by kernel_rfl) (fun _ _ _ h => h) (Or.inl ⟨by rfl, ?hy12x177⟩) (by assumption) ?rest12x177; case hy12x177 => (intro w hSw; (try dsimp only at hSw); go_split_ands; go_simp; (try with_reducible rfl)))
      try simp only [Act.put, List.setIfInBounds_toArray, List.set_cons_zero, List.set_cons_succ, List.getElem_toArray, List.getElem_cons_zero, List.getElem_cons_succ]
      (refine wpAnyH_take (i := 13) (v := ?v13x178) rfl (by kernel_rfl) (by kernel_rfl) (by kernel_rfl) (fun _ _ _ h => h) (Or.inl ⟨by rfl, ?hy13x178⟩) (by assumption) ?rest13x178; case hy13x178 => (intro w hSw; (try dsimp only at hSw); go_split_ands; go_simp; (try with_reducible rfl)))
      try simp only [Act.put, List.setIfInBounds_toArray, List.set_cons_zero, List.set_cons_succ, List.getElem_toArray, List.getElem_cons_zero, List.getElem_cons_succ]
      (refine wpAnyH_take (i := 14) (v := ?v14x179) rfl (by kernel_rfl) (by kernel_rfl) (by kernel_rfl) (fun _ _ _ h => h) (Or.inl ⟨by rfl, ?hy14x179⟩) (by assumption) ?rest14x179; case hy14x179 => (intro w hSw; (try dsimp only at hSw); go_split_ands; go_simp; (try with_reducible rfl)))
      try simp only [Act.put, List.setIfInBounds_toArray, List.set_cons_zero, List.set_cons_succ, List.getElem_toArray, List.getElem_cons_zero, List.getElem_cons_succ]
      (refine wpAnyH_take (i := 15) (v := ?v15x180) rfl (by kernel_rfl) (by kernel_rfl) (by kernel_rfl) (fun _ _ _ h => h) (Or.inl ⟨by rfl, ?hy15x180⟩) (by assumption) ?rest15x180; case hy15x180 => (intro w hSw; (try dsimp only at hSw); go_split_ands; go_simp; (try with_reducible rfl)))
      try simp only [Act.put, List.setIfInBounds_toArray, List.set_cons_zero, List.set_cons_succ, List.getElem_toArray, List.getElem_cons_zero, List.getElem_cons_succ]
      have E0 : Below W5.heap.size W5 W9 := ((((((b6).trans (b7.mono (b6).size))).trans (b8.mono (((b6).trans (b7.mono (b6).size))).size))).trans (b9.mono (((((b6).trans (b7.mono (b6).size))).trans (b8.mono (((b6).trans (b7.mono (b6).size))).size))).size))
      refine wpAnyH_ready (rs := [11]) (by kernel_rfl) (by simp) ?_
      refine AllReadyH.cons rfl (fun K hK => ?_) AllReadyH.nil
      go_simp
      refine (qroot W9.drew _ (Below.drew B9.out) (sfr.out _ (Below.drew E0))).mono ?_
      rintro e W10 ⟨rfl, b10⟩
      have b10 : Below W9.heap.size W9 W10 := (Below.drew (Below.refl _ _)).trans b10
      refine hK.out _ _ ⟨(keepR (W := W9) hHeld.1 b10), (keepR (W := W9) hHeld.2.1 b10), (keepR (W := W9) hHeld.2.2 b10)⟩ (fun hHeld => ?_)
      clear hK K
      try simp only [Act.put, List.setIfInBounds_toArray, List.set_cons_zero, List.set_cons_succ, List.getElem_toArray, List.getElem_cons_zero, List.getElem_cons_succ]
      have z10 : W9.heap.size ≤ W10.heap.size := b10.size
      have B10 : Hid (Below w.heap.size w W10) := B9.out.trans (b10.mono B9.out.size)
      have r_l10 : Hid (W10.heap[W1.heap.size]? = some (.cells #[.slice (some ⟨bt, ot, none⟩) l.length cap1, .int .i64 (l.length : Int), .string (root l)] 28 (0, 0))) := rowKeep r_l9.out b10
      have r_gg10 : Hid (W10.heap[W5.heap.size]? = some (.cells #[.slice ao9 m.length cap9, .int .i64 (m.length : Int), .string (root m)] 28 (0, 0))) := rowKeep r_gg9.out b10
      have o_p10 : Hid (Own W10 (W2.heap.size) (W3.heap.size) 9 (.slice ao_p L_p cap_p) (ss PP)) := Own.later o_p9.out b10 (by omega)
      have o_q10 : Hid (Own W10 (W6.heap.size) (W7.heap.size) 9 (.slice ao_q L_q cap_q) (ss GG)) := Own.later o_q9.out b10 (by omega)
      have c_l10_0 : W10.cell? ⟨W1.heap.size, 0, none⟩ = some (.slice (some ⟨bt, ot, none⟩) l.length cap1) := row_at r_l10.out 0
      have c_l10_1 : W10.cell? ⟨W1.heap.size, 1, none⟩ = some (.int .i64 (l.length : Int)) := row_at r_l10.out 1
      have c_l10_2 : W10.cell? ⟨W1.heap.size, 2, none⟩ = some (.string (root l)) := row_at r_l10.out 2
      have c_gg10_0 : W10.cell? ⟨W5.heap.size, 0, none⟩ = some (.slice ao9 m.length cap9) := row_at r_gg10.out 0
      have c_gg10_1 : W10.cell? ⟨W5.heap.size, 1, none⟩ = some (.int .i64 (m.length : Int)) := row_at r_gg10.out 1
      have c_gg10_2 : W10.cell? ⟨W5.heap.size, 2, none⟩ = some (.string (root m)) := row_at r_gg10.out 2
      clear r_l9 c_l9_0 c_l9_1 c_l9_2 r_gg9 c_gg9_0 c_gg9_1 c_gg9_2 o_p9 o_q9
      refine wpAnyH_ready (rs := [16]) (by kernel_rfl) (by simp) ?_
      refine AllReadyH.cons rfl (fun K hK => ?_) AllReadyH.nil
      go_simp
      refine (qcg W10 _ B10.out o_q10.out.sl).mono ?_
      rintro e W11 ⟨rfl, b11⟩
      refine hK.out _ _ ⟨(keepR (W := W10) hHeld.1 b11), (keepR (W := W10) hHeld.2.1 b11), (keepR (W := W10) hHeld.2.2 b11)⟩ (fun hHeld => ?_)
      clear hK K
      try simp only [Act.put, List.setIfInBounds_toArray, List.set_cons_zero, List.set_cons_succ, List.getElem_toArray, List.getElem_cons_zero, List.getElem_cons_succ]
      have z11 : W10.heap.size ≤ W11.heap.size := b11.size
      have B11 : Hid (Below w.heap.size w W11) := B10.out.trans (b11.mono B10.out.size)
      have r_l11 : Hid (W11.heap[W1.heap.size]? = some (.cells #[.slice (some ⟨bt, ot, none⟩) l.length cap1, .int .i64 (l.length : Int), .string (root l)] 28 (0, 0))) := rowKeep r_l10.out b11
      have r_gg11 : Hid (W11.heap[W5.heap.size]? = some (.cells #[.slice ao9 m.length cap9, .int .i64 (m.length : Int), .string (root m)] 28 (0, 0))) := rowKeep r_gg10.out b11
      have o_p11 : Hid (Own W11 (W2.heap.size) (W3.heap.size) 9 (.slice ao_p L_p cap_p) (ss PP)) := Own.later o_p10.out b11 (by omega)
      have o_q11 : Hid (Own W11 (W6.heap.size) (W7.heap.size) 9 (.slice ao_q L_q cap_q) (ss GG)) := Own.later o_q10.out b11 (by omega)
      have c_l11_0 : W11.cell? ⟨W1.heap.size, 0, none⟩ = some (.slice (some ⟨bt, ot, none⟩) l.length cap1) := row_at r_l11.out 0
      have c_l11_1 : W11.cell? ⟨W1.heap.size, 1, none⟩ = some (.int .i64 (l.length : Int)) := row_at r_l11.out 1
      have c_l11_2 : W11.cell? ⟨W1.heap.size, 2, none⟩ = some (.string (root l)) := row_at r_l11.out 2
      have c_gg11_0 : W11.cell? ⟨W5.heap.size, 0, none⟩ = some (.slice ao9 m.length cap9) := row_at r_gg11.out 0
      have c_gg11_1 : W11.cell? ⟨W5.heap.size, 1, none⟩ = some (.int .i64 (m.length : Int)) := row_at r_gg11.out 1
      have c_gg11_2 : W11.cell? ⟨W5.heap.size, 2, none⟩ = some (.string (root m)) := row_at r_gg11.out 2
      clear r_l10 c_l10_0 c_l10_1 c_l10_2 r_gg10 c_gg10_0 c_gg10_1 c_gg10_2 o_p10 o_q10
      (refine wpAnyH_take (i := 17) (v := ?v17x181) rfl (by kernel_rfl) (by kernel_rfl) (by kernel_rfl) (fun _ _ _ h => h) (Or.inl ⟨by rfl, ?hy17x181⟩) (by assumption) ?rest17x181; case hy17x181 => (intro w hSw; (try dsimp only at hSw); go_split_ands; go_simp; (try with_reducible rfl)))
      try simp only [Act.put, List.setIfInBounds_toArray, List.set_cons_zero, List.set_cons_succ, List.getElem_toArray, List.getElem_cons_zero, List.getElem_cons_succ]
      (refine wpAnyH_take (i := 18) (v := ?v18x182) rfl (by kernel_rfl) (by kernel_rfl) (by kernel_rfl) (fun _ _ _ h => h) (Or.inl ⟨by rfl, ?hy18x182⟩) (by assumption) ?rest18x182; case hy18x182 => (intro w hSw; (try dsimp only at hSw); go_split_ands; go_simp; (try with_reducible rfl)))
      try simp only [Act.put, List.setIfInBounds_toArray, List.set_cons_zero, List.set_cons_succ, List.getElem_toArray, List.getElem_cons_zero, List.getElem_cons_succ]
      refine wpAnyH_done (by kernel_rfl) ?_ _
      clear hHeld
      go_wp2
      go_ret
      exact ⟨rfl, B11.out⟩

end Go.Proofs.YtccnhhdcdamgmaaDoor.Lg
