/- Texts in one: SrH. -/
import Derived.Test.YtfpaichdkddglabGreatDoorPk13
namespace Go.Proofs.YtfpaichdkddglabGreatDoor.Sr
open Go.RowKit Go.Proofs.YtfpaichdkddglabGreatDoor.Mem Go.Proofs.YtfpaichdkddglabGreatDoor.Laws Go.Proofs.YtfpaichdkddglabGreatDoor.Bytes Go.Proofs.YtfpaichdkddglabGreatDoor.Sha Go.Proofs.YtfpaichdkddglabGreatDoor.Tr Go.Proofs.YtfpaichdkddglabGreatDoor.He Go.Proofs.YtfpaichdkddglabGreatDoor.Lg
set_option linter.unusedVariables false
set_option linter.unusedSimpArgs false
theorem pairN {w : World} {lo hi : Nat} {v vb : Value} {cs ds : List Value} (h : Own w lo hi 9 v cs) (k : Own w lo hi 5 vb ds) (hh : lo ≤ hi) : ∃ l1 h1 l2 h2, lo ≤ l1 ∧ l1 ≤ h1 ∧ h1 ≤ hi ∧ lo ≤ l2 ∧ l2 ≤ h2 ∧ h2 ≤ hi ∧ (h1 ≤ l2 ∨ h2 ≤ l1) ∧ Own w l1 h1 9 v cs ∧ Own w l2 h2 5 vb ds := by
 have one : ∀ (e : TypeId) (u : Value) (es : List Value), Own w lo hi e u es → ∃ l1 h1, lo ≤ l1 ∧ l1 ≤ h1 ∧ h1 ≤ hi ∧ Own w l1 h1 e u es ∧ (l1 = h1 ∧ l1 = lo ∨ h1 = l1 + 1 ∧ u.ownBlock = some l1) := by
  intro e u es ho
  obtain ⟨⟨h1, h2⟩, h3⟩ := ho
  rcases h2 with ⟨rfl, h0⟩ | ⟨g, cap, cur, rfl, hb, hg, q⟩
  ·
   exact ⟨lo, lo, Nat.le_refl _, Nat.le_refl _, hh, ⟨⟨h1, Or.inl ⟨rfl, h0⟩⟩, fun g hg => by simp [Value.ownBlock] at hg⟩, Or.inl ⟨rfl, rfl⟩⟩
  ·
   have hl := h3 g rfl
   exact ⟨g, g + 1, hb, by omega, hl, ⟨⟨h1, Or.inr ⟨g, cap, cur, rfl, Nat.le_refl _, hg, q⟩⟩, fun g' hg' => by simp [Value.ownBlock] at hg'; omega⟩, Or.inr ⟨rfl, rfl⟩⟩
 obtain ⟨l1, h1, a1, a2, a3, a4, a5⟩ := one 9 v cs h
 obtain ⟨l2, h2, b1, b2, b3, b4, b5⟩ := one 5 vb ds k
 refine ⟨l1, h1, l2, h2, a1, a2, a3, b1, b2, b3, ?_, a4, b4⟩
 rcases a5 with a5 | ⟨a5, a6⟩
 ·
  omega
 ·
  rcases b5 with b5 | ⟨b5, b6⟩
  ·
   omega
  ·
   have hne := Own.neOwn h k (by decide) l2 b6
   have : l1 ≠ l2 := fun e => hne (by rw [a6, e])
   omega
def Apart2 (l1 h1 l2 h2 : Nat) (w w' : World) : Prop := ∃ m, Apart l1 h1 w m ∧ Apart l2 h2 m w'
theorem Apart2.size {l1 h1 l2 h2 : Nat} {w w' : World} (h : Apart2 l1 h1 l2 h2 w w') : w.heap.size ≤ w'.heap.size := by
 obtain ⟨m, a, b⟩ := h
 exact Nat.le_trans a.size b.size
theorem Apart2.block {l1 h1 l2 h2 : Nat} {w w' : World} (h : Apart2 l1 h1 l2 h2 w w') (k : Nat) (hk : k < w.heap.size) (d1 : k < l1 ∨ h1 ≤ k) (d2 : k < l2 ∨ h2 ≤ k) : w'.heap[k]? = w.heap[k]? := by
 obtain ⟨m, a, b⟩ := h
 rw [b.block k (Nat.lt_of_lt_of_le hk a.size) (by omega), a.block k hk (by omega)]
theorem Apart2.below {l1 h1 l2 h2 B : Nat} {w w' : World} (h : Apart2 l1 h1 l2 h2 w w') (d1 : B ≤ l1) (d2 : B ≤ l2) (hB : B ≤ w.heap.size) : Below B w w' := by
 obtain ⟨m, a, b⟩ := h
 exact (a.below d1 hB).trans (b.below d2 (Nat.le_trans hB a.size))
theorem Own.apart2 {l1 h1 l2 h2 lo hi : Nat} {w w' : World} {e : TypeId} {v : Value} {cs : List Value} (h : Own w lo hi e v cs) (p : Apart2 l1 h1 l2 h2 w w') (d1 : hi ≤ l1 ∨ h1 ≤ lo) (d2 : hi ≤ l2 ∨ h2 ≤ lo) (hs : hi ≤ w.heap.size) : Own w' lo hi e v cs := by
 obtain ⟨m, a, b⟩ := p
 exact Own.apart (Own.apart h a d1 hs) b d2 (Nat.le_trans hs a.size)
set_option maxRecDepth 1000000 in
set_option maxHeartbeats 4000000 in
theorem to_store (w : World) (v vb : Value) (l : List ByteArray) (h : Hd) (b : List Int) (s : Int) (hs : Sl w v (ss l)) (hb : Sl w vb (bs b)) (hl : l.length ≤ 1000000000) (hbl : b.length ≤ 1000000000) :
  Calls Tryz.prog 11 #[.agg #[v, .int .i64 h.n, .string h.r, vb, .int .i64 s]] w fun e w' => ∃ v' vb', e = .returned (.agg #[v', .int .i64 h.n, .string h.r, vb', .int .i64 s]) ∧ Own w' w.heap.size w'.heap.size 9 v' (ss l) ∧ Own w' w.heap.size w'.heap.size 5 vb' (bs b) ∧ Below w.heap.size w w' := by
 have HS : Hid (Sl w v (ss l)) := hs
 have HSB : Hid (Sl w vb (bs b)) := hb
 obtain ⟨ao0, cap0, rfl, hc0⟩ := hs.form
 obtain ⟨ao1, cap1, rfl, hc1⟩ := hb.form
 simp only [ss_len, bs_len] at *
 clear hs hb
 have B0 : Hid (Below w.heap.size w w) := Below.refl _ _
 obtain ⟨W1, HW1, b1, y1, hS1, r_a1, r_res1, r_out1⟩ : ∃ X, Hid ((((w.alloc (.cells #[.slice ao0 l.length cap0, .int .i64 h.n, .string h.r, .slice ao1 b.length cap1, .int .i64 s] 29)).alloc (.cells #[.slice none 0 0, .int .i64 0, .string ⟨#[]⟩, .slice none 0 0, .int .i64 0] 39)).alloc (.cells #[.slice none 0 0, .int .i64 0, .string ⟨#[]⟩, .slice none 0 0, .int .i64 0] 39)) = X) ∧ Below w.heap.size w X ∧ w.heap.size + 3 ≤ X.heap.size ∧ Hid (X.heap.size = w.heap.size + 1 + 1 + 1) ∧ Hid (X.heap[w.heap.size]? = some (.cells #[.slice ao0 l.length cap0, .int .i64 h.n, .string h.r, .slice ao1 b.length cap1, .int .i64 s] 29 (0, 0))) ∧ Hid (X.heap[w.heap.size + 1]? = some (.cells #[.slice none 0 0, .int .i64 0, .string ⟨#[]⟩, .slice none 0 0, .int .i64 0] 39 (0, 0))) ∧ Hid (X.heap[w.heap.size + 1 + 1]? = some (.cells #[.slice none 0 0, .int .i64 0, .string ⟨#[]⟩, .slice none 0 0, .int .i64 0] 39 (0, 0))) := ⟨_, rfl, ((((Below.refl _ _).alloc (Nat.le_refl _) _).alloc (by simp) _).alloc (by simp; omega) _), by simp, by show _ = _; simp, (by show _ = _; exact alloc_nth3_0 w _ _ _), (by show _ = _; exact alloc_nth3_1 w _ _ _), (by show _ = _; exact alloc_nth3_2 w _ _ _)⟩
 have z1 : w.heap.size ≤ W1.heap.size := b1.size
 have B1 : Hid (Below w.heap.size w W1) := B0.out.trans (b1.mono B0.out.size)
 have q1 : ∀ W v1, Sl W v1 (ss l) → _ := fun W v1 h1 => to_log W v1 l h h1 (by omega)
 have q2 : ∀ W v1, Sl W v1 (bs b) → _ := fun W v1 h1 => to_any W v1 b h1 (by omega)
 go_enter Tryz.func11, Tryz.ntmps11
 go_wp2_with fail
 rw [HW1.out]
 refine (q1 W1 _ (HS.out.later B1.out)).mono ?_
 rintro e W2 ⟨v_s, rfl, o_s2, b2⟩
 obtain ⟨ao_s, L_s, cap_s, rfl, hL_s, hM_s⟩ := o_s2.form
 have o_s2 : Hid (Own W2 W1.heap.size W2.heap.size 9 (.slice ao_s L_s cap_s) (ss l)) := o_s2
 clear hL_s hM_s
 have z2 : W1.heap.size ≤ W2.heap.size := b2.size
 have B2 : Hid (Below w.heap.size w W2) := B1.out.trans (b2.mono B1.out.size)
 have r_a2 : Hid (W2.heap[w.heap.size]? = some (.cells #[.slice ao0 l.length cap0, .int .i64 h.n, .string h.r, .slice ao1 b.length cap1, .int .i64 s] 29 (0, 0))) := rowKeep r_a1.out b2
 have r_res2 : Hid (W2.heap[w.heap.size + 1]? = some (.cells #[.slice none 0 0, .int .i64 0, .string ⟨#[]⟩, .slice none 0 0, .int .i64 0] 39 (0, 0))) := rowKeep r_res1.out b2
 have r_out2 : Hid (W2.heap[w.heap.size + 1 + 1]? = some (.cells #[.slice none 0 0, .int .i64 0, .string ⟨#[]⟩, .slice none 0 0, .int .i64 0] 39 (0, 0))) := rowKeep r_out1.out b2
 clear r_a1 r_res1 r_out1
 go_wp2_with (refine wpl_partG rfl 37 _ _ rfl (w.heap.size + 1 + 1) 0 (lc (.slice ao_s L_s cap_s) h) rfl rfl [.slice none 0 0, .int .i64 0, .string ⟨#[]⟩, .slice none 0 0, .int .i64 0] 39 r_out2.out (Nat.le_of_ble_eq_true rfl) (sizeL _ _) (oneL _ rfl) [.slice ao_s L_s cap_s, .int .i64 h.n, .string h.r, .slice none 0 0, .int .i64 0] rfl ?_)
 intro W3 r_out3 g3
 have r_out3 : Hid (W3.heap[w.heap.size + 1 + 1]? = some (.cells #[.slice ao_s L_s cap_s, .int .i64 h.n, .string h.r, .slice none 0 0, .int .i64 0] 39 (0, 0))) := r_out3
 have z3 : W2.heap.size ≤ W3.heap.size := g3.size
 have B3 : Hid (Below w.heap.size w W3) := belowGro B2.out g3 B2.out.size (fun k9 h9 => by injection h9 with h9; have := B2.out.size; omega)
 have r_a3 : Hid (W3.heap[w.heap.size]? = some (.cells #[.slice ao0 l.length cap0, .int .i64 h.n, .string h.r, .slice ao1 b.length cap1, .int .i64 s] 29 (0, 0))) := rowGro r_a2.out g3 (fun h9 => by injection h9 with h9; omega)
 have r_res3 : Hid (W3.heap[w.heap.size + 1]? = some (.cells #[.slice none 0 0, .int .i64 0, .string ⟨#[]⟩, .slice none 0 0, .int .i64 0] 39 (0, 0))) := rowGro r_res2.out g3 (fun h9 => by injection h9 with h9; omega)
 have o_s3 : Hid (Own W3 (W1.heap.size) (W2.heap.size) 9 (.slice ao_s L_s cap_s) (ss l)) := Own.gro o_s2.out g3 (fun k9 h9 e9 => Own.neRow o_s2.out r_out2.out (by decide) (h9.trans e9.symm))
 have c_a3_3 : W3.cell? ⟨w.heap.size, 3, none⟩ = some (.slice ao1 b.length cap1) := row_at r_a3.out 3
 clear r_a2 r_res2 o_s2
 clear r_out2
 clear g3
 go_wp2_with fail
 refine (q2 W3 _ (HSB.out.later B3.out)).mono ?_
 rintro e W4 ⟨v_p, rfl, o_p4, b4⟩
 obtain ⟨ao_p, L_p, cap_p, rfl, hL_p, hM_p⟩ := o_p4.form
 have o_p4 : Hid (Own W4 W3.heap.size W4.heap.size 5 (.slice ao_p L_p cap_p) (bs b)) := o_p4
 clear hL_p hM_p
 have z4 : W3.heap.size ≤ W4.heap.size := b4.size
 have B4 : Hid (Below w.heap.size w W4) := B3.out.trans (b4.mono B3.out.size)
 have r_a4 : Hid (W4.heap[w.heap.size]? = some (.cells #[.slice ao0 l.length cap0, .int .i64 h.n, .string h.r, .slice ao1 b.length cap1, .int .i64 s] 29 (0, 0))) := rowKeep r_a3.out b4
 have r_res4 : Hid (W4.heap[w.heap.size + 1]? = some (.cells #[.slice none 0 0, .int .i64 0, .string ⟨#[]⟩, .slice none 0 0, .int .i64 0] 39 (0, 0))) := rowKeep r_res3.out b4
 have r_out4 : Hid (W4.heap[w.heap.size + 1 + 1]? = some (.cells #[.slice ao_s L_s cap_s, .int .i64 h.n, .string h.r, .slice none 0 0, .int .i64 0] 39 (0, 0))) := rowKeep r_out3.out b4
 have o_s4 : Hid (Own W4 (W1.heap.size) (W2.heap.size) 9 (.slice ao_s L_s cap_s) (ss l)) := Own.later o_s3.out b4 (by omega)
 clear r_a3 c_a3_3 r_res3 r_out3 o_s3
 go_wp2_with (refine wpl_oneG rfl 27 _ _ rfl (w.heap.size + 1 + 1) 3 (.slice ao_p L_p cap_p) rfl rfl [.slice ao_s L_s cap_s, .int .i64 h.n, .string h.r, .slice none 0 0, .int .i64 0] 39 r_out4.out (Nat.le_of_ble_eq_true rfl) (by kernel_rfl) rfl [.slice ao_s L_s cap_s, .int .i64 h.n, .string h.r, .slice ao_p L_p cap_p, .int .i64 0] rfl ?_)
 intro W5 r_out5 g5
 have r_out5 : Hid (W5.heap[w.heap.size + 1 + 1]? = some (.cells #[.slice ao_s L_s cap_s, .int .i64 h.n, .string h.r, .slice ao_p L_p cap_p, .int .i64 0] 39 (0, 0))) := r_out5
 have z5 : W4.heap.size ≤ W5.heap.size := g5.size
 have B5 : Hid (Below w.heap.size w W5) := belowGro B4.out g5 B4.out.size (fun k9 h9 => by injection h9 with h9; have := B4.out.size; omega)
 have r_a5 : Hid (W5.heap[w.heap.size]? = some (.cells #[.slice ao0 l.length cap0, .int .i64 h.n, .string h.r, .slice ao1 b.length cap1, .int .i64 s] 29 (0, 0))) := rowGro r_a4.out g5 (fun h9 => by injection h9 with h9; omega)
 have r_res5 : Hid (W5.heap[w.heap.size + 1]? = some (.cells #[.slice none 0 0, .int .i64 0, .string ⟨#[]⟩, .slice none 0 0, .int .i64 0] 39 (0, 0))) := rowGro r_res4.out g5 (fun h9 => by injection h9 with h9; omega)
 have o_s5 : Hid (Own W5 (W1.heap.size) (W2.heap.size) 9 (.slice ao_s L_s cap_s) (ss l)) := Own.gro o_s4.out g5 (fun k9 h9 e9 => Own.neRow o_s4.out r_out4.out (by decide) (h9.trans e9.symm))
 have o_p5 : Hid (Own W5 (W3.heap.size) (W4.heap.size) 5 (.slice ao_p L_p cap_p) (bs b)) := Own.gro o_p4.out g5 (fun k9 h9 e9 => Own.neRow o_p4.out r_out4.out (by decide) (h9.trans e9.symm))
 have c_a5_4 : W5.cell? ⟨w.heap.size, 4, none⟩ = some (.int .i64 s) := row_at r_a5.out 4
 clear r_a4 r_res4 o_s4 o_p4
 clear r_out4
 clear g5
 go_wp2_with (refine wpl_oneG rfl 3 _ _ rfl (w.heap.size + 1 + 1) 4 (.int .i64 s) rfl rfl [.slice ao_s L_s cap_s, .int .i64 h.n, .string h.r, .slice ao_p L_p cap_p, .int .i64 0] 39 r_out5.out (Nat.le_of_ble_eq_true rfl) (by kernel_rfl) rfl [.slice ao_s L_s cap_s, .int .i64 h.n, .string h.r, .slice ao_p L_p cap_p, .int .i64 s] rfl ?_)
 intro W6 r_out6 g6
 have r_out6 : Hid (W6.heap[w.heap.size + 1 + 1]? = some (.cells #[.slice ao_s L_s cap_s, .int .i64 h.n, .string h.r, .slice ao_p L_p cap_p, .int .i64 s] 39 (0, 0))) := r_out6
 have z6 : W5.heap.size ≤ W6.heap.size := g6.size
 have B6 : Hid (Below w.heap.size w W6) := belowGro B5.out g6 B5.out.size (fun k9 h9 => by injection h9 with h9; have := B5.out.size; omega)
 have r_res6 : Hid (W6.heap[w.heap.size + 1]? = some (.cells #[.slice none 0 0, .int .i64 0, .string ⟨#[]⟩, .slice none 0 0, .int .i64 0] 39 (0, 0))) := rowGro r_res5.out g6 (fun h9 => by injection h9 with h9; omega)
 have o_s6 : Hid (Own W6 (W1.heap.size) (W2.heap.size) 9 (.slice ao_s L_s cap_s) (ss l)) := Own.gro o_s5.out g6 (fun k9 h9 e9 => Own.neRow o_s5.out r_out5.out (by decide) (h9.trans e9.symm))
 have o_p6 : Hid (Own W6 (W3.heap.size) (W4.heap.size) 5 (.slice ao_p L_p cap_p) (bs b)) := Own.gro o_p5.out g6 (fun k9 h9 e9 => Own.neRow o_p5.out r_out5.out (by decide) (h9.trans e9.symm))
 clear r_a5 c_a5_4 r_res5 o_s5 o_p5
 clear r_out5
 clear g6
 go_wp2_with (first | (refine wpList_load_row rfl 39 _ rfl (w.heap.size + 1 + 1) rfl 39 (sc (.slice ao_s L_s cap_s) h (.slice ao_p L_p cap_p) s) (0, 0) _ r_out6.out Tryz.underlying39 rfl (sizeS _ _ _ _) ?_) | (refine wpList_store_row rfl 39 _ _ rfl (w.heap.size + 1) (sc (.slice ao_s L_s cap_s) h (.slice ao_p L_p cap_p) s) rfl rfl 39 _ r_res6.out (sizeS _ _ _ _) rfl (oneS _ _ rfl rfl) ?_))
 exact bodyPost_ret (v := .agg (sc (.slice ao_s L_s cap_s) h (.slice ao_p L_p cap_p) s)) (results_cell_row rfl _ _ (w.heap.size + 1) 39 _ (0, 0) _ rfl (setRow_heap _ _ _ _ _ (0, 0) r_res6.out) Tryz.underlying39 rfl (sizeS _ _ _ _)) rfl ⟨_, _, rfl, (Own.setRow o_s6.out _ (by omega)).mono (by omega) (by rw [size_setRow]; omega), (Own.setRow o_p6.out _ (by omega)).mono (by omega) (by rw [size_setRow]; omega), below_setRow B6.out (by omega) _⟩
set_option maxRecDepth 1000000 in
theorem sz_bytes (w : World) (ao : Option Addr) (n cap : Nat) (r : Int) (h0 : 0 ≤ r) (h1 : r ≤ 1048576) (hn : n ≤ 9223372036854775807) :
  Calls Tryz.prog 31 #[.slice ao n cap, .int .i64 r] w fun e w' => e = .returned (.int .i64 (if r - (n : Int) < 0 then -1 else r - (n : Int))) ∧ w' = w := by
 have wr : IntKind.i64.wrap (r - (n : Int)) = r - (n : Int) := by rw [IntKind.wrap_i64]; omega
 by_cases hb : r - (n : Int) < 0
 ·
  rw [if_pos hb]
  go_enter Tryz.func31, Tryz.ntmps31
  go_wp2
  go_ret
  exact ⟨rfl, rfl⟩
 ·
  rw [if_neg hb]
  go_enter Tryz.func31, Tryz.ntmps31
  go_wp2
  go_ret
  exact ⟨rfl, rfl⟩
set_option maxRecDepth 1000000 in
set_option maxHeartbeats 4000000 in
theorem sz_store (w : World) (v vb : Value) (l : List ByteArray) (h : Hd) (b : List Int) (s : Int) (hs : Sl w v (ss l)) (hb : Sl w vb (bs b)) (hz : ∀ s ∈ l, s.size ≤ 9223372036854775807) (hl : l.length ≤ 9223372036854775807) (hbl : b.length ≤ 9223372036854775807) (hr : h.r.size ≤ 9223372036854775807) :
  Calls Tryz.prog 6 #[.agg #[v, .int .i64 h.n, .string h.r, vb, .int .i64 s], .int .i64 1048576] w fun e w' => (∃ r : Int, e = .returned (.int .i64 r) ∧ (r < 0 ∨ (l.length + Puts.tot l ≤ 1048576 ∧ h.r.size ≤ 1048576 ∧ b.length ≤ 1048576 ∧ 0 ≤ r ∧ r ≤ 1048576))) ∧ Below w.heap.size w w' := by
 have HS : Hid (Sl w v (ss l)) := hs
 obtain ⟨ao0, cap0, rfl, hc0⟩ := hs.form
 obtain ⟨ao1, cap1, rfl, hc1⟩ := hb.form
 simp only [ss_len, bs_len] at *
 clear hs hb
 have B0 : Hid (Below w.heap.size w w) := Below.refl _ _
 obtain ⟨W1, HW1, b1, y1, hS1, r_a1⟩ : ∃ X, Hid ((w.alloc (.cells #[.slice ao0 l.length cap0, .int .i64 h.n, .string h.r, .slice ao1 b.length cap1, .int .i64 s] 29)) = X) ∧ Below w.heap.size w X ∧ w.heap.size + 1 ≤ X.heap.size ∧ Hid (X.heap.size = w.heap.size + 1) ∧ Hid (X.heap[w.heap.size]? = some (.cells #[.slice ao0 l.length cap0, .int .i64 h.n, .string h.r, .slice ao1 b.length cap1, .int .i64 s] 29 (0, 0))) := ⟨_, rfl, ((Below.refl _ _).alloc (Nat.le_refl _) _), by simp, by show _ = _; simp, (by show _ = _; exact alloc_nth1_0 w _)⟩
 have B1 : Hid (Below w.heap.size w W1) := B0.out.trans (b1.mono B0.out.size)
 have q1 := sz_log W1 _ l h 1048576 (HS.out.later B1.out) hz hl hr (Nat.le_refl _)
 clear hz
 go_enter Tryz.func6, Tryz.ntmps6
 go_wp2_with fail
 rw [HW1.out]
 refine q1.mono ?_
 rintro e W2 ⟨⟨r, rfl, hr0⟩, b2⟩
 clear q1
 have B2 : Hid (Below w.heap.size w W2) := B1.out.trans (b2.mono B1.out.size)
 have r_a2 : Hid (W2.heap[w.heap.size]? = some (.cells #[.slice ao0 l.length cap0, .int .i64 h.n, .string h.r, .slice ao1 b.length cap1, .int .i64 s] 29 (0, 0))) := rowKeep r_a1.out b2
 have c_a2_3 : W2.cell? ⟨w.heap.size, 3, none⟩ = some (.slice ao1 b.length cap1) := row_at r_a2.out 3
 clear r_a1
 by_cases h0 : r < 0
 ·
  go_wp2
  go_ret
  exact ⟨⟨-1, rfl, .inl (by omega)⟩, B2.out⟩
 ·
  rcases hr0 with hr0 | ⟨hr1, hr2, hr3, hr4⟩
  ·
   exact absurd hr0 h0
  have q2 : ∀ W, _ := fun W => sz_bytes W ao1 b.length cap1 r hr3 (by omega) hbl
  by_cases hb : r - (b.length : Int) < 0
  ·
   simp only [if_pos hb] at q2
   go_wp2_with fail
   refine (q2 W2).mono ?_
   rintro e W_ ⟨rfl, hW_⟩
   have hW_ := hW_.symm
   subst hW_
   go_wp2
   go_ret
   exact ⟨⟨-1, rfl, .inl (by omega)⟩, B2.out⟩
  ·
   simp only [if_neg hb] at q2
   have h5 : b.length ≤ 1048576 := by omega
   obtain ⟨m, hm⟩ : ∃ m, r - (b.length : Int) = m := ⟨_, rfl⟩
   have hm2 : 0 ≤ m ∧ m ≤ 1048576 := by omega
   rw [hm] at hb
   simp only [hm] at q2
   clear hm
   go_wp2_with fail
   refine (q2 W2).mono ?_
   rintro e W_ ⟨rfl, hW_⟩
   have hW_ := hW_.symm
   subst hW_
   go_wp2
   go_ret
   exact ⟨⟨m, rfl, .inr ⟨hr1, hr2, h5, hm2.1, hm2.2⟩⟩, B2.out⟩
set_option maxRecDepth 1000000 in
set_option maxHeartbeats 4000000 in
theorem eq_store (w : World) (v1 v2 b1 b2 : Value) (l : List ByteArray) (h : Hd) (b : List Int) (s : Int) (s1 : Sl w v1 (ss l)) (s2 : Sl w v2 (ss l)) (t1 : Sl w b1 (bs b)) (t2 : Sl w b2 (bs b)) (hl : l.length ≤ 1000000000) (hbl : b.length ≤ 1000000000) :
  Calls Tryz.prog 16 #[.agg #[v1, .int .i64 h.n, .string h.r, b1, .int .i64 s], .agg #[v2, .int .i64 h.n, .string h.r, b2, .int .i64 s]] w fun e w' => e = .returned (.bool true) ∧ Below w.heap.size w w' := by
 have S1 : Hid (Sl w v1 (ss l)) := s1
 have S2 : Hid (Sl w v2 (ss l)) := s2
 have T1 : Hid (Sl w b1 (bs b)) := t1
 have T2 : Hid (Sl w b2 (bs b)) := t2
 obtain ⟨ao0, cap0, rfl, hc0⟩ := s1.form
 obtain ⟨ao1, cap1, rfl, hc1⟩ := t1.form
 obtain ⟨ao2, cap2, rfl, hc2⟩ := s2.form
 obtain ⟨ao3, cap3, rfl, hc3⟩ := t2.form
 simp only [ss_len, bs_len] at *
 clear s1 s2 t1 t2
 have B0 : Hid (Below w.heap.size w w) := Below.refl _ _
 obtain ⟨W1, HW1, b1, y1, hS1, r_a1, r_b1⟩ : ∃ X, Hid (((w.alloc (.cells #[.slice ao0 l.length cap0, .int .i64 h.n, .string h.r, .slice ao1 b.length cap1, .int .i64 s] 39)).alloc (.cells #[.slice ao2 l.length cap2, .int .i64 h.n, .string h.r, .slice ao3 b.length cap3, .int .i64 s] 39)) = X) ∧ Below w.heap.size w X ∧ w.heap.size + 2 ≤ X.heap.size ∧ Hid (X.heap.size = w.heap.size + 1 + 1) ∧ Hid (X.heap[w.heap.size]? = some (.cells #[.slice ao0 l.length cap0, .int .i64 h.n, .string h.r, .slice ao1 b.length cap1, .int .i64 s] 39 (0, 0))) ∧ Hid (X.heap[w.heap.size + 1]? = some (.cells #[.slice ao2 l.length cap2, .int .i64 h.n, .string h.r, .slice ao3 b.length cap3, .int .i64 s] 39 (0, 0))) := ⟨_, rfl, (((Below.refl _ _).alloc (Nat.le_refl _) _).alloc (by simp) _), by simp, by show _ = _; simp, (by show _ = _; exact alloc_nth2_0 w _ _), (by show _ = _; exact alloc_nth2_1 w _ _)⟩
 have B1 : Hid (Below w.heap.size w W1) := B0.out.trans (b1.mono B0.out.size)
 go_enter Tryz.func16, Tryz.ntmps16
 go_wp2_with fail
 rw [HW1.out]
 refine (eq_log W1 h _ _ l (S1.out.later B1.out) (S2.out.later B1.out) (by omega)).mono ?_
 rintro e W2 ⟨rfl, b2⟩
 have B2 : Hid (Below w.heap.size w W2) := B1.out.trans (b2.mono B1.out.size)
 have r_a2 : Hid (W2.heap[w.heap.size]? = some (.cells #[.slice ao0 l.length cap0, .int .i64 h.n, .string h.r, .slice ao1 b.length cap1, .int .i64 s] 39 (0, 0))) := rowKeep r_a1.out b2
 have r_b2 : Hid (W2.heap[w.heap.size + 1]? = some (.cells #[.slice ao2 l.length cap2, .int .i64 h.n, .string h.r, .slice ao3 b.length cap3, .int .i64 s] 39 (0, 0))) := rowKeep r_b1.out b2
 have c_a2_3 : W2.cell? ⟨w.heap.size, 3, none⟩ = some (.slice ao1 b.length cap1) := row_at r_a2.out 3
 have c_b2_3 : W2.cell? ⟨w.heap.size + 1, 3, none⟩ = some (.slice ao3 b.length cap3) := row_at r_b2.out 3
 clear r_a1 r_b1
 go_wp2_with fail
 refine (eq_true W2 _ _ b (T1.out.later B2.out) (T2.out.later B2.out) (by omega)).mono ?_
 rintro e W3 ⟨rfl, h3, _⟩
 have b3 : Below W2.heap.size W2 W3 := h3 _
 clear h3
 have B3 : Hid (Below w.heap.size w W3) := B2.out.trans (b3.mono B2.out.size)
 have r_a3 : Hid (W3.heap[w.heap.size]? = some (.cells #[.slice ao0 l.length cap0, .int .i64 h.n, .string h.r, .slice ao1 b.length cap1, .int .i64 s] 39 (0, 0))) := rowKeep r_a2.out b3
 have r_b3 : Hid (W3.heap[w.heap.size + 1]? = some (.cells #[.slice ao2 l.length cap2, .int .i64 h.n, .string h.r, .slice ao3 b.length cap3, .int .i64 s] 39 (0, 0))) := rowKeep r_b2.out b3
 have c_a3_4 : W3.cell? ⟨w.heap.size, 4, none⟩ = some (.int .i64 s) := row_at r_a3.out 4
 have c_b3_4 : W3.cell? ⟨w.heap.size + 1, 4, none⟩ = some (.int .i64 s) := row_at r_b3.out 4
 clear r_a2 c_a2_3 r_b2 c_b2_3
 go_wp2
 go_ret
 exact ⟨rfl, B3.out⟩
set_option maxRecDepth 1000000 in
set_option maxHeartbeats 4000000 in
theorem mark_store (w : World) (n : Hd) (v vb : Value) (s : Int) (l1 h1 l2 h2 : Nat) (l : List ByteArray) (b : List Int) (k0 : Nat) (h9 : Own w l1 h1 9 v (ss l)) (h5 : Own w l2 h2 5 vb (bs b)) (d : h1 ≤ l2 ∨ h2 ≤ l1) (e1 : h1 ≤ w.heap.size) (e2 : h2 ≤ w.heap.size) (hx : l.length ≤ 100000000) (hb : b.length ≤ 100000000) (hk1 : 1 ≤ k0) (hk0 : k0 ≤ 100000000) :
  Calls Tryz.prog 19 #[.agg #[v, .int .i64 n.n, .string n.r, vb, .int .i64 s], .int .i64 (k0 : Int)] w fun e w' => e = .returned (.int .i64 ((k0 + l.length + b.length : Nat) : Int)) ∧ Own w' l1 h1 9 v (ss (Strs.mts k0 l.length)) ∧ Own w' l2 h2 5 vb (bs (marks (k0 + l.length) b.length)) ∧ Apart2 l1 h1 l2 h2 w w' := by
 have bA : Below w.heap.size w (w.alloc (.cells #[v, .int .i64 n.n, .string n.r, vb, .int .i64 s] 39)) := (Below.refl _ _).alloc (Nat.le_refl _) _
 obtain ⟨ao0, L0, cap0, rfl, _, _⟩ := h9.form
 obtain ⟨ao1, L1, cap1, rfl, _, _⟩ := h5.form
 obtain ⟨W1, HW1, b1, y1, r1⟩ : ∃ X, Hid (w.alloc (.cells #[.slice ao0 L0 cap0, .int .i64 n.n, .string n.r, .slice ao1 L1 cap1, .int .i64 s] 39) = X) ∧ Below w.heap.size w X ∧ w.heap.size + 1 ≤ X.heap.size ∧ Hid (X.heap[w.heap.size]? = some (.cells #[.slice ao0 L0 cap0, .int .i64 n.n, .string n.r, .slice ao1 L1 cap1, .int .i64 s] 39 (0, 0))) := ⟨_, rfl, bA, by simp, heap_alloc_new _ _⟩
 clear bA
 have q1 := mark_log W1 n _ l1 h1 l k0 (h9.later b1 e1) (by omega) (by omega) hk1 (by omega)
 have A1 : Hid (Apart l1 h1 w W1) := (Apart.refl l1 h1 w).grow b1
 have o51 : Hid (Own W1 l2 h2 5 (.slice ao1 L1 cap1) (bs b)) := h5.later b1 e2
 obtain ⟨m1, hm1⟩ : ∃ m : Int, ((k0 + l.length : Nat) : Int) = m := ⟨_, rfl⟩
 have q2 : ∀ W, Own W l2 h2 5 (.slice ao1 L1 cap1) (bs b) → _ := fun W ho => mark_bytes W _ l2 h2 b (k0 + l.length) ho (by omega) (by omega)
 obtain ⟨m2, hm2⟩ : ∃ m : Int, ((k0 + l.length + b.length : Nat) : Int) = m := ⟨_, rfl⟩
 simp only [hm1, hm2] at q2
 rw [hm1] at q1
 rw [hm2]
 clear hm1 hm2 h9 h5
 go_enter Tryz.func19, Tryz.ntmps19
 go_wp2_with fail
 rw [HW1.out]
 refine q1.mono ?_
 rintro e W2 ⟨rfl, o92, p2⟩
 have r2 : W2.heap[w.heap.size]? = some (.cells #[.slice ao0 L0 cap0, .int .i64 n.n, .string n.r, .slice ao1 L1 cap1, .int .i64 s] 39 (0, 0)) := (p2.block w.heap.size (by omega) (by omega)).trans r1.out
 have c3 : W2.cell? ⟨w.heap.size, 3, none⟩ = some (.slice ao1 L1 cap1) := row_at r2 3
 have o52 := Own.apart o51.out p2 (by omega) (by omega)
 have A2 : Hid (Apart l1 h1 w W2) := A1.out.trans p2
 have O92 : Hid _ := o92
 have O52 : Hid _ := o52
 have z2 := p2.size
 clear q1 r1 r2 o51 A1 o92 o52 p2
 go_wp2_with fail
 refine (q2 _ O52.out).mono ?_
 rintro e W3 ⟨rfl, o53, p3⟩
 have o93 := Own.apart O92.out p3 (by omega) (by omega)
 have H9 : Hid _ := o93
 have H5 : Hid _ := o53
 have A3 : Hid (Apart2 l1 h1 l2 h2 w W3) := ⟨W2, A2.out, p3⟩
 clear q2 o93 o53 p3 c3
 go_wp2
 go_ret
 exact ⟨rfl, H9.out, H5.out, A3.out⟩
set_option maxRecDepth 1000000 in
set_option maxHeartbeats 4000000 in
theorem held_store (w : World) (n : Hd) (v vb : Value) (s : Int) (m j k0 : Nat) (h9 : Sl w v (ss (Strs.mts k0 m))) (h5 : Sl w vb (bs (marks (k0 + m) j))) (hx : m ≤ 100000000) (hb : j ≤ 100000000) (hk1 : 1 ≤ k0) (hk0 : k0 ≤ 100000000) :
  Calls Tryz.prog 22 #[.agg #[v, .int .i64 n.n, .string n.r, vb, .int .i64 s], .int .i64 (k0 : Int)] w fun e w' => e = .returned (.int .i64 ((k0 + m + j : Nat) : Int)) ∧ Below w.heap.size w w' := by
 have S1 : Hid (Sl w v (ss (Strs.mts k0 m))) := h9
 have T1 : Hid (Sl w vb (bs (marks (k0 + m) j))) := h5
 obtain ⟨ao0, cap0, rfl, hc0⟩ := h9.form
 obtain ⟨ao1, cap1, rfl, hc1⟩ := h5.form
 simp only [ss_len, bs_len, Strs.mts_len, marks_len] at *
 have q1 : ∀ W v1, Sl W v1 (ss (Strs.mts k0 m)) → _ := fun W v1 h1 => held_log W n v1 m k0 h1 (by omega) hk1 (by omega)
 obtain ⟨m1, hm1⟩ : ∃ m9 : Int, ((k0 + m : Nat) : Int) = m9 := ⟨_, rfl⟩
 have q2 : ∀ W v1, Sl W v1 (bs (marks (k0 + m) j)) → _ := fun W v1 h1 => held_any W v1 j (k0 + m) h1 (by omega) (by omega)
 obtain ⟨m2, hm2⟩ : ∃ m9 : Int, ((k0 + m + j : Nat) : Int) = m9 := ⟨_, rfl⟩
 have d1 : ¬ m1 < 0 := by omega
 have d2 : ¬ m2 < 0 := by omega
 simp only [hm1, hm2] at q2
 simp only [hm1] at q1
 rw [hm2]
 clear hm1 hm2 h9 h5
 have B0 : Hid (Below w.heap.size w w) := Below.refl _ _
 obtain ⟨W1, HW1, b1, y1, hS1, r_a1⟩ : ∃ X, Hid ((w.alloc (.cells #[.slice ao0 m cap0, .int .i64 n.n, .string n.r, .slice ao1 j cap1, .int .i64 s] 39)) = X) ∧ Below w.heap.size w X ∧ w.heap.size + 1 ≤ X.heap.size ∧ Hid (X.heap.size = w.heap.size + 1) ∧ Hid (X.heap[w.heap.size]? = some (.cells #[.slice ao0 m cap0, .int .i64 n.n, .string n.r, .slice ao1 j cap1, .int .i64 s] 39 (0, 0))) := ⟨_, rfl, ((Below.refl _ _).alloc (Nat.le_refl _) _), by simp, by show _ = _; simp, (by show _ = _; exact alloc_nth1_0 w _)⟩
 have B1 : Hid (Below w.heap.size w W1) := B0.out.trans (b1.mono B0.out.size)
 go_enter Tryz.func22, Tryz.ntmps22
 go_wp2_with fail
 rw [HW1.out]
 refine (q1 W1 _ (S1.out.later B1.out)).mono ?_
 rintro e W2 ⟨rfl, b2⟩
 have B2 : Hid (Below w.heap.size w W2) := B1.out.trans (b2.mono B1.out.size)
 have r_a2 : Hid (W2.heap[w.heap.size]? = some (.cells #[.slice ao0 m cap0, .int .i64 n.n, .string n.r, .slice ao1 j cap1, .int .i64 s] 39 (0, 0))) := rowKeep r_a1.out b2
 have c_a2_3 : W2.cell? ⟨w.heap.size, 3, none⟩ = some (.slice ao1 j cap1) := row_at r_a2.out 3
 clear r_a1
 go_wp2_with fail
 refine (q2 W2 _ (T1.out.later B2.out)).mono ?_
 rintro e W_ ⟨rfl, hW_⟩
 have hW_ := hW_.symm
 subst hW_
 go_wp2
 go_ret
 exact ⟨rfl, B2.out⟩
end Go.Proofs.YtfpaichdkddglabGreatDoor.Sr
