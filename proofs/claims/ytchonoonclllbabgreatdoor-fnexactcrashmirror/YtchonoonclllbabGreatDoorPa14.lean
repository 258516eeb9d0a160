/- Texts in one: SrH, Mg4, MiM, MiN, MiO. -/
import Derived.Test.YtchonoonclllbabGreatDoorPa6
import Derived.Test.YtchonoonclllbabGreatDoorPa13
import Derived.Test.YtchonoonclllbabGreatDoorPa5
import Derived.Test.YtchonoonclllbabGreatDoorPa11
import Derived.Test.YtchonoonclllbabGreatDoorPa10
namespace Go.Proofs.YtchonoonclllbabGreatDoor.Sr
open Go.RowKit Go.Proofs.YtchonoonclllbabGreatDoor.Mem Go.Proofs.YtchonoonclllbabGreatDoor.Laws Go.Proofs.YtchonoonclllbabGreatDoor.Bytes Go.Proofs.YtchonoonclllbabGreatDoor.Sha Go.Proofs.YtchonoonclllbabGreatDoor.Tr Go.Proofs.YtchonoonclllbabGreatDoor.He Go.Proofs.YtchonoonclllbabGreatDoor.Lg
set_option linter.unusedVariables false
set_option linter.unusedSimpArgs false
theorem pairN {w : World} {lo hi : Nat} {v vb : Value} {cs ds : List Value} (h : Own w lo hi 9 v cs) (k : Own w lo hi 5 vb ds) (hh : lo ≤ hi) : ∃ l1 h1 l2 h2, lo ≤ l1 ∧ l1 ≤ h1 ∧ h1 ≤ hi ∧ lo ≤ l2 ∧ l2 ≤ h2 ∧ h2 ≤ hi ∧ (h1 ≤ l2 ∨ h2 ≤ l1) ∧ Own w l1 h1 9 v cs ∧ Own w l2 h2 5 vb ds := by
 have one : ∀ (e : TypeId) (u : Value) (es : List Value), Own w lo hi e u es → ∃ l1 h1, lo ≤ l1 ∧ l1 ≤ h1 ∧ h1 ≤ hi ∧ Own w l1 h1 e u es ∧ (l1 = h1 ∧ l1 = lo ∨ h1 = l1 + 1 ∧ u.ownBlock = some l1) := by
  intro e u es ho
  obtain ⟨⟨h1, h2⟩, h3⟩ := ho
  rcases h2 with ⟨rfl, h0⟩ | ⟨g, cap, cur, rfl, hb, hg, q⟩
  ·
   exact ⟨lo, lo, Nat.le_refl _, Nat.le_refl _, hh, ⟨⟨h1, Or.inl ⟨rfl, h0⟩⟩, fun g hg => by simp [Value.ownBlock] at hg⟩, Or.inl ⟨rfl, rfl⟩⟩
  ·
   have hl := h3 g rfl
   exact ⟨g, g + 1, hb, by omega, hl, ⟨⟨h1, Or.inr ⟨g, cap, cur, rfl, Nat.le_refl _, hg, q⟩⟩, fun g' hg' => by simp [Value.ownBlock] at hg'; omega⟩, Or.inr ⟨rfl, rfl⟩⟩
 obtain ⟨l1, h1, a1, a2, a3, a4, a5⟩ := one 9 v cs h
 obtain ⟨l2, h2, b1, b2, b3, b4, b5⟩ := one 5 vb ds k
 refine ⟨l1, h1, l2, h2, a1, a2, a3, b1, b2, b3, ?_, a4, b4⟩
 rcases a5 with a5 | ⟨a5, a6⟩
 ·
  omega
 ·
  rcases b5 with b5 | ⟨b5, b6⟩
  ·
   omega
  ·
   have hne := Own.neOwn h k (by decide) l2 b6
   have : l1 ≠ l2 := fun e => hne (by rw [a6, e])
   omega
def Apart2 (l1 h1 l2 h2 : Nat) (w w' : World) : Prop := ∃ m, Apart l1 h1 w m ∧ Apart l2 h2 m w'
theorem Apart2.size {l1 h1 l2 h2 : Nat} {w w' : World} (h : Apart2 l1 h1 l2 h2 w w') : w.heap.size ≤ w'.heap.size := by
 obtain ⟨m, a, b⟩ := h
 exact Nat.le_trans a.size b.size
theorem Apart2.block {l1 h1 l2 h2 : Nat} {w w' : World} (h : Apart2 l1 h1 l2 h2 w w') (k : Nat) (hk : k < w.heap.size) (d1 : k < l1 ∨ h1 ≤ k) (d2 : k < l2 ∨ h2 ≤ k) : w'.heap[k]? = w.heap[k]? := by
 obtain ⟨m, a, b⟩ := h
 rw [b.block k (Nat.lt_of_lt_of_le hk a.size) (by omega), a.block k hk (by omega)]
theorem Apart2.below {l1 h1 l2 h2 B : Nat} {w w' : World} (h : Apart2 l1 h1 l2 h2 w w') (d1 : B ≤ l1) (d2 : B ≤ l2) (hB : B ≤ w.heap.size) : Below B w w' := by
 obtain ⟨m, a, b⟩ := h
 exact (a.below d1 hB).trans (b.below d2 (Nat.le_trans hB a.size))
theorem Own.apart2 {l1 h1 l2 h2 lo hi : Nat} {w w' : World} {e : TypeId} {v : Value} {cs : List Value} (h : Own w lo hi e v cs) (p : Apart2 l1 h1 l2 h2 w w') (d1 : hi ≤ l1 ∨ h1 ≤ lo) (d2 : hi ≤ l2 ∨ h2 ≤ lo) (hs : hi ≤ w.heap.size) : Own w' lo hi e v cs := by
 obtain ⟨m, a, b⟩ := p
 exact Own.apart (Own.apart h a d1 hs) b d2 (Nat.le_trans hs a.size)
set_option maxRecDepth 1000000 in
set_option maxHeartbeats 4000000 in
theorem to_store (w : World) (v vb : Value) (l : List ByteArray) (h : Hd) (b : List Int) (s : Int) (hs : Sl w v (ss l)) (hb : Sl w vb (bs b)) (hl : l.length ≤ 1000000000) (hbl : b.length ≤ 1000000000) :
  Calls Tryz.prog 41 #[.agg #[v, .int .i64 h.n, .string h.r, vb, .int .i64 s]] w fun e w' => ∃ v' vb', e = .returned (.agg #[v', .int .i64 h.n, .string h.r, vb', .int .i64 s]) ∧ Own w' w.heap.size w'.heap.size 9 v' (ss l) ∧ Own w' w.heap.size w'.heap.size 5 vb' (bs b) ∧ Below w.heap.size w w' := by
 have HS : Hid (Sl w v (ss l)) := hs
 have HSB : Hid (Sl w vb (bs b)) := hb
 obtain ⟨ao0, cap0, rfl, hc0⟩ := hs.form
 obtain ⟨ao1, cap1, rfl, hc1⟩ := hb.form
 simp only [ss_len, bs_len] at *
 clear hs hb
 have B0 : Hid (Below w.heap.size w w) := Below.refl _ _
 obtain ⟨W1, HW1, b1, y1, hS1, r_a1, r_res1, r_out1⟩ := Ke.l3 w #[.slice ao0 l.length cap0, .int .i64 h.n, .string h.r, .slice ao1 b.length cap1, .int .i64 s] 29 #[.slice none 0 0, .int .i64 0, .string ⟨#[]⟩, .slice none 0 0, .int .i64 0] 42 #[.slice none 0 0, .int .i64 0, .string ⟨#[]⟩, .slice none 0 0, .int .i64 0] 42
 have z1 := b1.size
 have B1 := Ke.b B0 b1
 have q1 : ∀ W v1, Sl W v1 (ss l) → _ := fun W v1 h1 => to_log W v1 l h h1 (by omega)
 have q2 : ∀ W v1, Sl W v1 (bs b) → _ := fun W v1 h1 => to_any W v1 b h1 (by omega)
 go_enter Tryz.func41, Tryz.ntmps41
 go_wp2_with fail
 rw [HW1.out]
 refine (q1 W1 _ (HS.out.later B1.out)).mono ?_
 rintro e W2 ⟨v_s, rfl, o_s2, b2⟩
 obtain ⟨ao_s, L_s, cap_s, rfl, hL_s, hM_s⟩ := o_s2.form
 have o_s2 : Hid (Own W2 W1.heap.size W2.heap.size 9 (.slice ao_s L_s cap_s) (ss l)) := o_s2
 clear hL_s hM_s
 have z2 := b2.size
 have B2 := Ke.b B1 b2
 have r_a2 := Ke.r r_a1 b2
 have r_res2 := Ke.r r_res1 b2
 have r_out2 := Ke.r r_out1 b2
 clear r_a1 r_res1 r_out1
 go_wp2_with (refine wpl_partG rfl 40 _ _ rfl (w.heap.size + 1 + 1) 0 (lc (.slice ao_s L_s cap_s) h) rfl rfl [.slice none 0 0, .int .i64 0, .string ⟨#[]⟩, .slice none 0 0, .int .i64 0] 42 r_out2.out (Nat.le_of_ble_eq_true rfl) (sizeL _ _) (oneL _ rfl) [.slice ao_s L_s cap_s, .int .i64 h.n, .string h.r, .slice none 0 0, .int .i64 0] rfl ?_)
 intro W3 r_out3 g3
 have r_out3 := Ke.h r_out3
 have z3 := g3.size
 have B3 : Hid (Below w.heap.size w W3) := belowGro B2.out g3 B2.out.size (fun k9 h9 => by injection h9 with h9; have := B2.out.size; omega)
 have r_a3 := Ke.s r_a2 g3
 have r_res3 := Ke.s r_res2 g3
 have o_s3 := Ke.t o_s2 r_out2 g3
 have c_a3 := Ke.c r_a3
 clear r_a2 r_res2 o_s2
 clear r_out2
 clear g3
 go_wp2_with fail
 refine (q2 W3 _ (HSB.out.later B3.out)).mono ?_
 rintro e W4 ⟨v_p, rfl, o_p4, b4⟩
 obtain ⟨ao_p, L_p, cap_p, rfl, hL_p, hM_p⟩ := o_p4.form
 have o_p4 : Hid (Own W4 W3.heap.size W4.heap.size 5 (.slice ao_p L_p cap_p) (bs b)) := o_p4
 clear hL_p hM_p
 have z4 := b4.size
 have B4 := Ke.b B3 b4
 have r_a4 := Ke.r r_a3 b4
 have r_res4 := Ke.r r_res3 b4
 have r_out4 := Ke.r r_out3 b4
 have o_s4 := Ke.o o_s3 b4
 clear r_a3 c_a3 r_res3 r_out3 o_s3
 go_wp2_with (refine wpl_oneG rfl 27 _ _ rfl (w.heap.size + 1 + 1) 3 (.slice ao_p L_p cap_p) rfl rfl [.slice ao_s L_s cap_s, .int .i64 h.n, .string h.r, .slice none 0 0, .int .i64 0] 42 r_out4.out (Nat.le_of_ble_eq_true rfl) (by kernel_rfl) rfl [.slice ao_s L_s cap_s, .int .i64 h.n, .string h.r, .slice ao_p L_p cap_p, .int .i64 0] rfl ?_)
 intro W5 r_out5 g5
 have r_out5 := Ke.h r_out5
 have z5 := g5.size
 have B5 : Hid (Below w.heap.size w W5) := belowGro B4.out g5 B4.out.size (fun k9 h9 => by injection h9 with h9; have := B4.out.size; omega)
 have r_a5 := Ke.s r_a4 g5
 have r_res5 := Ke.s r_res4 g5
 have o_s5 := Ke.t o_s4 r_out4 g5
 have o_p5 := Ke.t o_p4 r_out4 g5
 have c_a5 := Ke.c r_a5
 clear r_a4 r_res4 o_s4 o_p4
 clear r_out4
 clear g5
 go_wp2_with (refine wpl_oneG rfl 3 _ _ rfl (w.heap.size + 1 + 1) 4 (.int .i64 s) rfl rfl [.slice ao_s L_s cap_s, .int .i64 h.n, .string h.r, .slice ao_p L_p cap_p, .int .i64 0] 42 r_out5.out (Nat.le_of_ble_eq_true rfl) (by kernel_rfl) rfl [.slice ao_s L_s cap_s, .int .i64 h.n, .string h.r, .slice ao_p L_p cap_p, .int .i64 s] rfl ?_)
 intro W6 r_out6 g6
 have r_out6 := Ke.h r_out6
 have z6 := g6.size
 have B6 : Hid (Below w.heap.size w W6) := belowGro B5.out g6 B5.out.size (fun k9 h9 => by injection h9 with h9; have := B5.out.size; omega)
 have r_res6 := Ke.s r_res5 g6
 have o_s6 := Ke.t o_s5 r_out5 g6
 have o_p6 := Ke.t o_p5 r_out5 g6
 clear r_a5 c_a5 r_res5 o_s5 o_p5
 clear r_out5
 clear g6
 go_wp2_with (first | (refine wpList_load_row rfl 42 _ rfl (w.heap.size + 1 + 1) rfl 42 (sc (.slice ao_s L_s cap_s) h (.slice ao_p L_p cap_p) s) (0, 0) _ r_out6.out Tryz.underlying42 rfl (sizeS _ _ _ _) ?_) | (refine wpList_store_row rfl 42 _ _ rfl (w.heap.size + 1) (sc (.slice ao_s L_s cap_s) h (.slice ao_p L_p cap_p) s) rfl rfl 42 _ r_res6.out (sizeS _ _ _ _) rfl (oneS _ _ rfl rfl) ?_))
 exact bodyPost_ret (v := .agg (sc (.slice ao_s L_s cap_s) h (.slice ao_p L_p cap_p) s)) (results_cell_row rfl _ _ (w.heap.size + 1) 42 _ (0, 0) _ rfl (setRow_heap _ _ _ _ _ (0, 0) r_res6.out) Tryz.underlying42 rfl (sizeS _ _ _ _)) rfl ⟨_, _, rfl, (Own.setRow o_s6.out _ (by omega)).mono (by omega) (by rw [size_setRow]; omega), (Own.setRow o_p6.out _ (by omega)).mono (by omega) (by rw [size_setRow]; omega), below_setRow B6.out (by omega) _⟩
set_option maxRecDepth 1000000 in
theorem sz_bytes (w : World) (ao : Option Addr) (n cap : Nat) (r : Int) (h0 : 0 ≤ r) (h1 : r ≤ 1048576) (hn : n ≤ 9223372036854775807) :
  Calls Tryz.prog 66 #[.slice ao n cap, .int .i64 r] w fun e w' => e = .returned (.int .i64 (if r - (n : Int) < 0 then -1 else r - (n : Int))) ∧ w' = w := by
 have wr : IntKind.i64.wrap (r - (n : Int)) = r - (n : Int) := by rw [IntKind.wrap_i64]; omega
 by_cases hb : r - (n : Int) < 0
 ·
  rw [if_pos hb]
  go_enter Tryz.func66, Tryz.ntmps66
  go_wp2
  go_ret
  exact ⟨rfl, rfl⟩
 ·
  rw [if_neg hb]
  go_enter Tryz.func66, Tryz.ntmps66
  go_wp2
  go_ret
  exact ⟨rfl, rfl⟩
set_option maxRecDepth 1000000 in
set_option maxHeartbeats 4000000 in
theorem sz_store (w : World) (v vb : Value) (l : List ByteArray) (h : Hd) (b : List Int) (s : Int) (hs : Sl w v (ss l)) (hb : Sl w vb (bs b)) (hz : ∀ s ∈ l, s.size ≤ 9223372036854775807) (hl : l.length ≤ 9223372036854775807) (hbl : b.length ≤ 9223372036854775807) (hr : h.r.size ≤ 9223372036854775807) :
  Calls Tryz.prog 34 #[.agg #[v, .int .i64 h.n, .string h.r, vb, .int .i64 s], .int .i64 1048576] w fun e w' => (∃ r : Int, e = .returned (.int .i64 r) ∧ (r < 0 ∨ (l.length + Puts.tot l ≤ 1048576 ∧ h.r.size ≤ 1048576 ∧ b.length ≤ 1048576 ∧ 0 ≤ r ∧ r ≤ 1048576))) ∧ Below w.heap.size w w' := by
 have HS : Hid (Sl w v (ss l)) := hs
 obtain ⟨ao0, cap0, rfl, hc0⟩ := hs.form
 obtain ⟨ao1, cap1, rfl, hc1⟩ := hb.form
 simp only [ss_len, bs_len] at *
 clear hs hb
 have B0 : Hid (Below w.heap.size w w) := Below.refl _ _
 obtain ⟨W1, HW1, b1, y1, hS1, r_a1⟩ := Ke.l1 w #[.slice ao0 l.length cap0, .int .i64 h.n, .string h.r, .slice ao1 b.length cap1, .int .i64 s] 29
 have z1 := b1.size
 have B1 := Ke.b B0 b1
 have q1 := sz_log W1 _ l h 1048576 (HS.out.later B1.out) hz hl hr (Nat.le_refl _)
 clear hz
 go_enter Tryz.func34, Tryz.ntmps34
 go_wp2_with fail
 rw [HW1.out]
 refine q1.mono ?_
 rintro e W2 ⟨⟨r, rfl, hr0⟩, b2⟩
 clear q1
 have z2 := b2.size
 have B2 := Ke.b B1 b2
 have r_a2 := Ke.r r_a1 b2
 have c_a2 := Ke.c r_a2
 clear r_a1
 by_cases h0 : r < 0
 ·
  go_wp2
  go_ret
  exact ⟨⟨-1, rfl, .inl (by omega)⟩, B2.out⟩
 ·
  rcases hr0 with hr0 | ⟨hr1, hr2, hr3, hr4⟩
  ·
   exact absurd hr0 h0
  have q2 : ∀ W, _ := fun W => sz_bytes W ao1 b.length cap1 r hr3 (by omega) hbl
  by_cases hb : r - (b.length : Int) < 0
  ·
   simp only [if_pos hb] at q2
   go_wp2_with fail
   refine (q2 W2).mono ?_
   rintro e W_ ⟨rfl, hW_⟩
   have hW_ := hW_.symm
   subst hW_
   go_wp2
   go_ret
   exact ⟨⟨-1, rfl, .inl (by omega)⟩, B2.out⟩
  ·
   simp only [if_neg hb] at q2
   have h5 : b.length ≤ 1048576 := by omega
   obtain ⟨m, hm⟩ : ∃ m, r - (b.length : Int) = m := ⟨_, rfl⟩
   have hm2 : 0 ≤ m ∧ m ≤ 1048576 := by omega
   rw [hm] at hb
   simp only [hm] at q2
   clear hm
   go_wp2_with fail
   refine (q2 W2).mono ?_
   rintro e W_ ⟨rfl, hW_⟩
   have hW_ := hW_.symm
   subst hW_
   go_wp2
   go_ret
   exact ⟨⟨m, rfl, .inr ⟨hr1, hr2, h5, hm2.1, hm2.2⟩⟩, B2.out⟩
set_option maxRecDepth 1000000 in
set_option maxHeartbeats 4000000 in
theorem eq_store (w : World) (v1 v2 b1 b2 : Value) (l : List ByteArray) (h : Hd) (b : List Int) (s : Int) (s1 : Sl w v1 (ss l)) (s2 : Sl w v2 (ss l)) (t1 : Sl w b1 (bs b)) (t2 : Sl w b2 (bs b)) (hl : l.length ≤ 1000000000) (hbl : b.length ≤ 1000000000) :
  Calls Tryz.prog 48 #[.agg #[v1, .int .i64 h.n, .string h.r, b1, .int .i64 s], .agg #[v2, .int .i64 h.n, .string h.r, b2, .int .i64 s]] w fun e w' => e = .returned (.bool true) ∧ Below w.heap.size w w' := by
 have S1 : Hid (Sl w v1 (ss l)) := s1
 have S2 : Hid (Sl w v2 (ss l)) := s2
 have T1 : Hid (Sl w b1 (bs b)) := t1
 have T2 : Hid (Sl w b2 (bs b)) := t2
 obtain ⟨ao0, cap0, rfl, hc0⟩ := s1.form
 obtain ⟨ao1, cap1, rfl, hc1⟩ := t1.form
 obtain ⟨ao2, cap2, rfl, hc2⟩ := s2.form
 obtain ⟨ao3, cap3, rfl, hc3⟩ := t2.form
 simp only [ss_len, bs_len] at *
 have n1 : (s != s) = false := by simp
 have n2 : (s == s) = true := by simp
 clear s1 s2 t1 t2
 have B0 : Hid (Below w.heap.size w w) := Below.refl _ _
 obtain ⟨W1, HW1, b1, y1, hS1, r_a1, r_b1⟩ := Ke.l2 w #[.slice ao0 l.length cap0, .int .i64 h.n, .string h.r, .slice ao1 b.length cap1, .int .i64 s] 42 #[.slice ao2 l.length cap2, .int .i64 h.n, .string h.r, .slice ao3 b.length cap3, .int .i64 s] 42
 have z1 := b1.size
 have B1 := Ke.b B0 b1
 go_enter Tryz.func48, Tryz.ntmps48
 go_wp2_with fail
 rw [HW1.out]
 refine (eq_log W1 h _ _ l (S1.out.later B1.out) (S2.out.later B1.out) (by omega)).mono ?_
 rintro e W2 ⟨rfl, b2⟩
 have z2 := b2.size
 have B2 := Ke.b B1 b2
 have r_a2 := Ke.r r_a1 b2
 have r_b2 := Ke.r r_b1 b2
 have c_a2 := Ke.c r_a2
 have c_b2 := Ke.c r_b2
 clear r_a1 r_b1
 go_wp2_with fail
 refine (eq_true W2 _ _ b (T1.out.later B2.out) (T2.out.later B2.out) (by omega)).mono ?_
 rintro e W3 ⟨rfl, h3, _⟩
 have b3 : Below W2.heap.size W2 W3 := h3 _
 clear h3
 have z3 := b3.size
 have B3 := Ke.b B2 b3
 have r_a3 := Ke.r r_a2 b3
 have r_b3 := Ke.r r_b2 b3
 have c_a3 := Ke.c r_a3
 have c_b3 := Ke.c r_b3
 clear r_a2 c_a2 r_b2 c_b2
 go_wp2
 go_ret
 exact ⟨rfl, B3.out⟩
set_option maxRecDepth 1000000 in
set_option maxHeartbeats 4000000 in
theorem mark_store (w : World) (n : Hd) (v vb : Value) (s : Int) (l1 h1 l2 h2 : Nat) (l : List ByteArray) (b : List Int) (k0 : Nat) (h9 : Own w l1 h1 9 v (ss l)) (h5 : Own w l2 h2 5 vb (bs b)) (d : h1 ≤ l2 ∨ h2 ≤ l1) (e1 : h1 ≤ w.heap.size) (e2 : h2 ≤ w.heap.size) (hx : l.length ≤ 100000000) (hb : b.length ≤ 100000000) (hk1 : 1 ≤ k0) (hk0 : k0 ≤ 100000000) :
  Calls Tryz.prog 51 #[.agg #[v, .int .i64 n.n, .string n.r, vb, .int .i64 s], .int .i64 (k0 : Int)] w fun e w' => e = .returned (.int .i64 ((k0 + l.length + b.length : Nat) : Int)) ∧ Own w' l1 h1 9 v (ss (Strs.mts k0 l.length)) ∧ Own w' l2 h2 5 vb (bs (marks (k0 + l.length) b.length)) ∧ Apart2 l1 h1 l2 h2 w w' := by
 have bA : Below w.heap.size w (w.alloc (.cells #[v, .int .i64 n.n, .string n.r, vb, .int .i64 s] 42)) := (Below.refl _ _).alloc (Nat.le_refl _) _
 obtain ⟨ao0, L0, cap0, rfl, _, _⟩ := h9.form
 obtain ⟨ao1, L1, cap1, rfl, _, _⟩ := h5.form
 obtain ⟨W1, HW1, b1, y1, r1⟩ : ∃ X, Hid (w.alloc (.cells #[.slice ao0 L0 cap0, .int .i64 n.n, .string n.r, .slice ao1 L1 cap1, .int .i64 s] 42) = X) ∧ Below w.heap.size w X ∧ w.heap.size + 1 ≤ X.heap.size ∧ Hid (X.heap[w.heap.size]? = some (.cells #[.slice ao0 L0 cap0, .int .i64 n.n, .string n.r, .slice ao1 L1 cap1, .int .i64 s] 42 (0, 0))) := ⟨_, rfl, bA, by simp, heap_alloc_new _ _⟩
 clear bA
 have q1 := mark_log W1 n _ l1 h1 l k0 (h9.later b1 e1) (by omega) (by omega) hk1 (by omega)
 have A1 : Hid (Apart l1 h1 w W1) := (Apart.refl l1 h1 w).grow b1
 have o51 : Hid (Own W1 l2 h2 5 (.slice ao1 L1 cap1) (bs b)) := h5.later b1 e2
 obtain ⟨m1, hm1⟩ : ∃ m : Int, ((k0 + l.length : Nat) : Int) = m := ⟨_, rfl⟩
 have q2 : ∀ W, Own W l2 h2 5 (.slice ao1 L1 cap1) (bs b) → _ := fun W ho => mark_bytes W _ l2 h2 b (k0 + l.length) ho (by omega) (by omega)
 obtain ⟨m2, hm2⟩ : ∃ m : Int, ((k0 + l.length + b.length : Nat) : Int) = m := ⟨_, rfl⟩
 simp only [hm1, hm2] at q2
 rw [hm1] at q1
 rw [hm2]
 clear hm1 hm2 h9 h5
 go_enter Tryz.func51, Tryz.ntmps51
 go_wp2_with fail
 rw [HW1.out]
 refine q1.mono ?_
 rintro e W2 ⟨rfl, o92, p2⟩
 have r2 : W2.heap[w.heap.size]? = some (.cells #[.slice ao0 L0 cap0, .int .i64 n.n, .string n.r, .slice ao1 L1 cap1, .int .i64 s] 42 (0, 0)) := (p2.block w.heap.size (by omega) (by omega)).trans r1.out
 have c3 : W2.cell? ⟨w.heap.size, 3, none⟩ = some (.slice ao1 L1 cap1) := row_at r2 3
 have o52 := Own.apart o51.out p2 (by omega) (by omega)
 have A2 : Hid (Apart l1 h1 w W2) := A1.out.trans p2
 have O92 : Hid _ := o92
 have O52 : Hid _ := o52
 have z2 := p2.size
 clear q1 r1 r2 o51 A1 o92 o52 p2
 go_wp2_with fail
 refine (q2 _ O52.out).mono ?_
 rintro e W3 ⟨rfl, o53, p3⟩
 have o93 := Own.apart O92.out p3 (by omega) (by omega)
 have H9 : Hid _ := o93
 have H5 : Hid _ := o53
 have A3 : Hid (Apart2 l1 h1 l2 h2 w W3) := ⟨W2, A2.out, p3⟩
 clear q2 o93 o53 p3 c3
 go_wp2
 go_ret
 exact ⟨rfl, H9.out, H5.out, A3.out⟩
set_option maxRecDepth 1000000 in
set_option maxHeartbeats 4000000 in
theorem held_store (w : World) (n : Hd) (v vb : Value) (s : Int) (m j k0 : Nat) (h9 : Sl w v (ss (Strs.mts k0 m))) (h5 : Sl w vb (bs (marks (k0 + m) j))) (hx : m ≤ 100000000) (hb : j ≤ 100000000) (hk1 : 1 ≤ k0) (hk0 : k0 ≤ 100000000) :
  Calls Tryz.prog 54 #[.agg #[v, .int .i64 n.n, .string n.r, vb, .int .i64 s], .int .i64 (k0 : Int)] w fun e w' => e = .returned (.int .i64 ((k0 + m + j : Nat) : Int)) ∧ Below w.heap.size w w' := by
 have S1 : Hid (Sl w v (ss (Strs.mts k0 m))) := h9
 have T1 : Hid (Sl w vb (bs (marks (k0 + m) j))) := h5
 obtain ⟨ao0, cap0, rfl, hc0⟩ := h9.form
 obtain ⟨ao1, cap1, rfl, hc1⟩ := h5.form
 simp only [ss_len, bs_len, Strs.mts_len, marks_len] at *
 have q1 : ∀ W v1, Sl W v1 (ss (Strs.mts k0 m)) → _ := fun W v1 h1 => held_log W n v1 m k0 h1 (by omega) hk1 (by omega)
 obtain ⟨m1, hm1⟩ : ∃ m9 : Int, ((k0 + m : Nat) : Int) = m9 := ⟨_, rfl⟩
 have q2 : ∀ W v1, Sl W v1 (bs (marks (k0 + m) j)) → _ := fun W v1 h1 => held_any W v1 j (k0 + m) h1 (by omega) (by omega)
 obtain ⟨m2, hm2⟩ : ∃ m9 : Int, ((k0 + m + j : Nat) : Int) = m9 := ⟨_, rfl⟩
 have d1 : ¬ m1 < 0 := by omega
 have d2 : ¬ m2 < 0 := by omega
 simp only [hm1, hm2] at q2
 simp only [hm1] at q1
 rw [hm2]
 clear hm1 hm2 h9 h5
 have B0 : Hid (Below w.heap.size w w) := Below.refl _ _
 obtain ⟨W1, HW1, b1, y1, hS1, r_a1⟩ := Ke.l1 w #[.slice ao0 m cap0, .int .i64 n.n, .string n.r, .slice ao1 j cap1, .int .i64 s] 42
 have z1 := b1.size
 have B1 := Ke.b B0 b1
 go_enter Tryz.func54, Tryz.ntmps54
 go_wp2_with fail
 rw [HW1.out]
 refine (q1 W1 _ (S1.out.later B1.out)).mono ?_
 rintro e W2 ⟨rfl, b2⟩
 have z2 := b2.size
 have B2 := Ke.b B1 b2
 have r_a2 := Ke.r r_a1 b2
 have c_a2 := Ke.c r_a2
 clear r_a1
 go_wp2_with fail
 refine (q2 W2 _ (T1.out.later B2.out)).mono ?_
 rintro e W_ ⟨rfl, hW_⟩
 have hW_ := hW_.symm
 subst hW_
 go_wp2
 go_ret
 exact ⟨rfl, B2.out⟩
end Go.Proofs.YtchonoonclllbabGreatDoor.Sr
namespace Go.Proofs.YtchonoonclllbabGreatDoor.Mg
open Go.RowKit Go.Proofs.YtchonoonclllbabGreatDoor.Mem Go.Proofs.YtchonoonclllbabGreatDoor.Laws Go.Proofs.YtchonoonclllbabGreatDoor.Bytes Go.Proofs.YtchonoonclllbabGreatDoor.Sha Go.Proofs.YtchonoonclllbabGreatDoor.Tr Go.Proofs.YtchonoonclllbabGreatDoor.He
set_option linter.unusedVariables false
set_option linter.unusedSimpArgs false
set_option maxRecDepth 1000000 in
set_option maxHeartbeats 4000000 in
theorem eq_msg (w : World) (v1 v2 : Value) (m : Ms) (h1 : Sl w v1 (ss m.x)) (h2 : Sl w v2 (ss m.x)) (hl : m.x.length ≤ 1000000000000) :
  Calls Tryz.prog 19 #[.agg #[.int .i64 m.k, .int .i64 m.f, .int .i64 m.t, .int .i64 m.h.n, .string m.h.r, .int .i64 m.n, v1], .agg #[.int .i64 m.k, .int .i64 m.f, .int .i64 m.t, .int .i64 m.h.n, .string m.h.r, .int .i64 m.n, v2]] w fun e w' => e = .returned (.bool true) ∧ Below w.heap.size w w' := by
 obtain ⟨k, f, t, h, n, x⟩ := m
 simp only at *
 have HS1 : Hid (Sl w v1 (ss x)) := h1
 have HS2 : Hid (Sl w v2 (ss x)) := h2
 obtain ⟨ao0, cap0, rfl, hc0⟩ := h1.form
 obtain ⟨ao1, cap1, rfl, hc1⟩ := h2.form
 simp only [ss_len] at *
 clear h1 h2
 have B0 : Hid (Below w.heap.size w w) := Below.refl _ _
 obtain ⟨W1, HW1, b1, y1, hS1, r_a1, r_b1⟩ := Ke.l2 w #[.int .i64 k, .int .i64 f, .int .i64 t, .int .i64 h.n, .string h.r, .int .i64 n, .slice ao0 x.length cap0] 52 #[.int .i64 k, .int .i64 f, .int .i64 t, .int .i64 h.n, .string h.r, .int .i64 n, .slice ao1 x.length cap1] 52
 have z1 := b1.size
 have B1 := Ke.b B0 b1
 have c_a1 := Ke.c r_a1
 have c_b1 := Ke.c r_b1
 have b_k : (k != k) = false := by simp
 have b_f : (f != f) = false := by simp
 have b_t : (t != t) = false := by simp
 have b_n : (n != n) = false := by simp
 have q1 : ∀ W, _ := fun W => eq_head W h
 have q2 : ∀ W v1 v2, Sl W v1 (ss x) → Sl W v2 (ss x) → _ := fun W v1 v2 h1 h2 => Strs.eqs_true W v1 v2 x h1 h2 hl
 go_enter Tryz.func19, Tryz.ntmps19
 go_wp2_with fail
 rw [HW1.out]
 refine (q1 W1).mono ?_
 rintro e W2 ⟨rfl, b2⟩
 have z2 := b2.size
 have B2 := Ke.b B1 b2
 have r_a2 := Ke.r r_a1 b2
 have r_b2 := Ke.r r_b1 b2
 have c_a2 := Ke.c r_a2
 have c_b2 := Ke.c r_b2
 clear r_a1 c_a1 r_b1 c_b1
 go_wp2_with fail
 refine (q2 W2 _ _ (HS1.out.later B2.out) (HS2.out.later B2.out)).mono ?_
 rintro e W3 ⟨rfl, h3, _⟩
 have b3 : Below W2.heap.size W2 W3 := h3 _
 clear h3
 have z3 := b3.size
 have B3 := Ke.b B2 b3
 have r_a3 := Ke.r r_a2 b3
 have r_b3 := Ke.r r_b2 b3
 have c_a3 := Ke.c r_a3
 have c_b3 := Ke.c r_b3
 clear r_a2 c_a2 r_b2 c_b2
 go_wp2
 go_ret
 exact ⟨rfl, B3.out⟩
end Go.Proofs.YtchonoonclllbabGreatDoor.Mg
namespace Go.Proofs.YtchonoonclllbabGreatDoor.Mi
open Go.RowKit Go.Proofs.YtchonoonclllbabGreatDoor.Mem Go.Proofs.YtchonoonclllbabGreatDoor.Laws Go.Proofs.YtchonoonclllbabGreatDoor.Bytes Go.Proofs.YtchonoonclllbabGreatDoor.Sha Go.Proofs.YtchonoonclllbabGreatDoor.Tr Go.Proofs.YtchonoonclllbabGreatDoor.He Go.Proofs.YtchonoonclllbabGreatDoor.Lg Go.Proofs.YtchonoonclllbabGreatDoor.Sr Go.Proofs.YtchonoonclllbabGreatDoor.Mg
set_option linter.unusedVariables false
set_option linter.unusedSimpArgs false
def Om (w : World) (lo hi : Nat) (v : Value) (q : List Ms) : Prop :=
 (q = [] ∧ ∃ ao cap, v = .slice ao 0 cap) ∨ (∃ m g u, q = [m] ∧ v = .slice (some ⟨g, 0, none⟩) 1 1 ∧ lo ≤ g ∧ g < hi ∧ hi ≤ w.heap.size ∧ w.heap[g]? = some (.cells (mc m u) 52 (0, 0)) ∧ Own w lo hi 9 u (ss m.x))
theorem Om.nil (w : World) (lo hi : Nat) (ao : Option Addr) (cap : Nat) : Om w lo hi (.slice ao 0 cap) [] := .inl ⟨rfl, _, _, rfl⟩
theorem Om.form {w : World} {lo hi : Nat} {v : Value} {q : List Ms} (h : Om w lo hi v q) : ∃ ao L cap, v = .slice ao L cap ∧ L = q.length ∧ L ≤ 1 := by
 rcases h with ⟨rfl, ao, cap, rfl⟩ | ⟨m, g, u, rfl, rfl, _⟩
 ·
  exact ⟨_, _, _, rfl, rfl, by simp⟩
 ·
  exact ⟨_, _, _, rfl, rfl, by simp⟩
theorem Om.later {w w' : World} {lo hi B : Nat} {v : Value} {q : List Ms} (h : Om w lo hi v q) (b : Below B w w') (hh : hi ≤ B) : Om w' lo hi v q := by
 rcases h with ⟨rfl, h⟩ | ⟨m, g, u, rfl, rfl, h1, h2, h3, h4, h5⟩
 ·
  exact .inl ⟨rfl, h⟩
 ·
  exact .inr ⟨m, g, u, rfl, rfl, h1, h2, Nat.le_trans h3 b.size, (b.block g (by omega)).trans h4, Own.later h5 b hh⟩
theorem Om.mono {w : World} {lo hi lo' hi' : Nat} {v : Value} {q : List Ms} (h : Om w lo hi v q) (h1 : lo' ≤ lo) (h2 : hi ≤ hi') (h3 : hi' ≤ w.heap.size) : Om w lo' hi' v q := by
 rcases h with ⟨rfl, h⟩ | ⟨m, g, u, rfl, rfl, a1, a2, a3, a4, a5⟩
 ·
  exact .inl ⟨rfl, h⟩
 ·
  exact .inr ⟨m, g, u, rfl, rfl, by omega, by omega, h3, a4, a5.mono h1 h2⟩
theorem Om.apart {w w' : World} {lo hi l h : Nat} {v : Value} {q : List Ms} (o : Om w lo hi v q) (p : Apart l h w w') (d : hi ≤ l ∨ h ≤ lo) (hs : hi ≤ w.heap.size) : Om w' lo hi v q := by
 rcases o with ⟨rfl, o⟩ | ⟨m, g, u, rfl, rfl, a1, a2, a3, a4, a5⟩
 ·
  exact .inl ⟨rfl, o⟩
 ·
  exact .inr ⟨m, g, u, rfl, rfl, a1, a2, Nat.le_trans a3 p.size, (p.block g (by omega) (by omega)).trans a4, Own.apart a5 p d hs⟩
theorem Om.apart2 {w w' : World} {lo hi l1 h1 l2 h2 : Nat} {v : Value} {q : List Ms} (o : Om w lo hi v q) (p : Apart2 l1 h1 l2 h2 w w') (d1 : hi ≤ l1 ∨ h1 ≤ lo) (d2 : hi ≤ l2 ∨ h2 ≤ lo) (hs : hi ≤ w.heap.size) : Om w' lo hi v q := by
 obtain ⟨m, a, b⟩ := p
 exact Om.apart (Om.apart o a d1 hs) b d2 (Nat.le_trans hs a.size)
theorem Om.setRow {w : World} {lo hi x : Nat} {v : Value} {q : List Ms} (o : Om w lo hi v q) (form : Array Value) (d : x < lo ∨ hi ≤ x) : Om (w.setRow x form) lo hi v q := by
 rcases o with ⟨rfl, o⟩ | ⟨m, g, u, rfl, rfl, a1, a2, a3, a4, a5⟩
 ·
  exact .inl ⟨rfl, o⟩
 ·
  exact .inr ⟨m, g, u, rfl, rfl, a1, a2, by rw [size_setRow]; exact a3, (setRow_other _ _ _ _ (by omega)).trans a4, Own.setRow a5 _ (by omega)⟩
theorem Om.one {w : World} {lo : Nat} {u : Value} (m : Ms) (h : Own w lo w.heap.size 9 u (ss m.x)) (hl : lo ≤ w.heap.size) : Om (w.alloc (.cells (mc m u) 52)) lo (w.alloc (.cells (mc m u) 52)).heap.size (.slice (some ⟨w.heap.size, 0, none⟩) 1 1) [m] :=
 .inr ⟨m, w.heap.size, u, rfl, rfl, hl, by simp, Nat.le_refl _, heap_alloc_new w _, (Own.later h ((Below.refl _ _).alloc (Nat.le_refl _) _) (Nat.le_refl _)).mono (Nat.le_refl _) (by simp)⟩
theorem Om.one0 {w : World} {lo : Nat} (m : Ms) (hx : m.x = []) (hl : lo ≤ w.heap.size) : Om (w.alloc (.cells (mc m (.slice none 0 0)) 52)) lo (w.alloc (.cells (mc m (.slice none 0 0)) 52)).heap.size (.slice (some ⟨w.heap.size, 0, none⟩) 1 1) [m] :=
 Om.one m (by rw [hx]; exact ⟨⟨rfl, Or.inl ⟨rfl, rfl⟩⟩, fun g hg => by simp [Value.ownBlock] at hg⟩) hl
def mkq (k : Nat) : List Ms → List Ms
 | [] => []
 | m :: _ => [⟨(k : Int), ((k + 1 : Nat) : Int), ((k + 2 : Nat) : Int), ⟨((k + 3 : Nat) : Int), Strs.mt (k + 4)⟩, ((k + 5 : Nat) : Int), Strs.mts (k + 6) m.x.length⟩]
def cnq : List Ms → Nat
 | [] => 0
 | m :: _ => 6 + m.x.length
set_option maxRecDepth 1000000 in
set_option maxHeartbeats 4000000 in
theorem eq_msgs (w : World) (v1 v2 : Value) (l1 h1 l2 h2 : Nat) (q : List Ms) (o1 : Om w l1 h1 v1 q) (o2 : Om w l2 h2 v2 q) (hl : ∀ m ∈ q, m.x.length ≤ 1000000000000) :
  Calls Tryz.prog 17 #[v1, v2] w fun e w' => e = .returned (.bool true) ∧ Below w.heap.size w w' := by
 rcases o1 with ⟨rfl, ao, cap, rfl⟩ | ⟨m, g1, u1, rfl, rfl, _, _, a3, a4, a5⟩
 ·
  rcases o2 with ⟨_, ao2, cap2, rfl⟩ | ⟨m, g, u, h9, _⟩
  ·
   go_enter Tryz.func17, Tryz.ntmps17
   go_wp2
   refine wp_loop_rounds 1 ?_; rw [rounds_succ]
   go_wp2
   go_ret
   exact ⟨rfl, Below.refl _ _⟩
  ·
   cases h9
 ·
  rcases o2 with ⟨h9, _⟩ | ⟨m2, g2, u2, h9, rfl, _, _, b3, b4, b5⟩
  ·
   cases h9
  ·
   obtain rfl : m = m2 := by injection h9
   have A := a4
   have B := b4
   have q1 : ∀ W, Below w.heap.size w W → _ := fun W hb => eq_msg W u1 u2 m (a5.sl.later hb) (b5.sl.later hb) (hl m (List.mem_singleton.2 rfl))
   clear hl h9
   have c1 := fun j => row_at a4 j
   have c2 := fun j => row_at b4 j
   obtain ⟨ao1, L1, cap1, rfl, _, _⟩ := a5.form
   obtain ⟨ao2, L2, cap2, rfl, _, _⟩ := b5.form
   obtain ⟨k, f, t, ⟨hn, hr⟩, n, x⟩ := m
   simp only [mc] at *
   go_enter Tryz.func17, Tryz.ntmps17
   go_wp2
   refine wp_loop_rounds 2 ?_; rw [rounds_succ]
   go_wp2_with fail
   refine wp_region_held_drew (S := fun w' => (∀ j, w'.cell? ⟨g1, j, none⟩ = #[.int .i64 k, .int .i64 f, .int .i64 t, .int .i64 hn, .string hr, .int .i64 n, .slice ao1 L1 cap1][j]?) ∧ (∀ j, w'.cell? ⟨g2, j, none⟩ = #[.int .i64 k, .int .i64 f, .int .i64 t, .int .i64 hn, .string hr, .int .i64 n, .slice ao2 L2 cap2][j]?)) (by kernel_rfl) ⟨c1, c2⟩ (fun hHeld => ?_)
   refine Ke.y 0 rfl (fun _ _ _ h => h) ?_
   try simp only [Act.put, pu1, pu2, pu3, pu4, pu5, pu6]
   refine Ke.y 1 rfl (fun _ _ _ h => h) ?_
   try simp only [Act.put, pu1, pu2, pu3, pu4, pu5, pu6]
   refine Ke.y 2 rfl (fun _ _ _ h => h) ?_
   try simp only [Act.put, pu1, pu2, pu3, pu4, pu5, pu6]
   refine Ke.y 3 rfl (fun _ _ _ h => h) ?_
   try simp only [Act.put, pu1, pu2, pu3, pu4, pu5, pu6]
   refine Ke.y 4 rfl (fun _ _ _ h => h) ?_
   try simp only [Act.put, pu1, pu2, pu3, pu4, pu5, pu6]
   refine Ke.y 5 rfl (fun _ _ _ h => h) ?_
   try simp only [Act.put, pu1, pu2, pu3, pu4, pu5, pu6]
   refine Ke.y 6 rfl (fun _ _ _ h => h) ?_
   try simp only [Act.put, pu1, pu2, pu3, pu4, pu5, pu6]
   refine Ke.y 7 rfl (fun _ _ _ h => h) ?_
   try simp only [Act.put, pu1, pu2, pu3, pu4, pu5, pu6]
   refine Ke.z 8 rfl (fun K hK => ?_)
   go_simp
   refine (q1 _ (Below.drew (Below.refl _ _))).mono ?_
   rintro e W ⟨rfl, bW⟩
   have bW : Below w.heap.size w W := (Below.drew (Below.refl _ _)).trans bW
   refine hK.out _ _ ⟨Ke.k (W := w) hHeld.1 bW, Ke.k (W := w) hHeld.2 bW⟩ (fun hHeld => ?_)
   clear hK K
   try simp only [Act.put, pu1, pu2, pu3, pu4, pu5, pu6]
   refine Ke.y 9 rfl (fun _ _ _ h => h) ?_
   try simp only [Act.put, pu1, pu2, pu3, pu4, pu5, pu6]
   refine wpAnyH_done (by kernel_rfl) ?_ _
   clear hHeld q1 c1 c2
   go_wp2
   rw [rounds_succ]
   go_wp2
   go_ret
   exact ⟨rfl, bW⟩
theorem Apart.groIn {lo hi x : Nat} {a w w' : World} (h : Apart lo hi a w) (g : w.grownBy w' (some x)) (h1 : lo ≤ x) (h2 : x < hi) : Apart lo hi a w' := by
 have b := belowGro (Below.refl 0 w) g (Nat.zero_le _) (fun k _ => Nat.zero_le _)
 refine ⟨b.os.trans h.os, b.tape.trans h.tape, b.output.trans h.output, Nat.le_trans h.size g.size, fun k hk1 hk2 => ?_⟩
 exact (g.block k (Nat.lt_of_lt_of_le hk1 h.size) (fun e => by injection e with e; omega)).trans (h.block k hk1 hk2)
theorem Apart.wide {lo hi l1 h1 : Nat} {a w w' : World} (h : Apart lo hi a w) (k : Apart l1 h1 w w') (e1 : lo ≤ l1) (e2 : h1 ≤ hi) : Apart lo hi a w' :=
 ⟨k.os.trans h.os, k.tape.trans h.tape, k.output.trans h.output, Nat.le_trans h.size k.size, fun i hi1 hi2 => (k.block i (Nat.lt_of_lt_of_le hi1 h.size) (by omega)).trans (h.block i hi1 hi2)⟩
theorem Own.narrow {w : World} {lo hi g : Nat} {e t : TypeId} {v : Value} {cs : List Value} {cx : Array Value} {fr : Nat × Nat} (h : Own w lo hi e v cs) (r : w.heap[g]? = some (.cells cx t fr)) (ht : t ≠ e) (hh : lo ≤ hi) : ∃ l1 h1, lo ≤ l1 ∧ l1 ≤ h1 ∧ h1 ≤ hi ∧ (g < l1 ∨ h1 ≤ g) ∧ Own w l1 h1 e v cs := by
 have hne := Own.neRow h r ht
 obtain ⟨⟨h1, h2⟩, h3⟩ := h
 rcases h2 with ⟨rfl, h0⟩ | ⟨b, cap, cur, rfl, hb, hg, q⟩
 ·
  exact ⟨lo, lo, Nat.le_refl _, Nat.le_refl _, hh, by omega, ⟨⟨h1, Or.inl ⟨rfl, h0⟩⟩, fun g hg => by simp [Value.ownBlock] at hg⟩⟩
 ·
  have hl := h3 b rfl
  have : b ≠ g := fun e => hne (by rw [← e]; rfl)
  exact ⟨b, b + 1, hb, by omega, hl, by omega, ⟨⟨h1, Or.inr ⟨b, cap, cur, rfl, Nat.le_refl _, hg, q⟩⟩, fun g' hg' => by simp [Value.ownBlock] at hg'; omega⟩⟩
set_option maxRecDepth 1000000 in
set_option maxHeartbeats 8000000 in
theorem mark_msgs (w : World) (v : Value) (lo hi : Nat) (q : List Ms) (k0 : Nat) (h : Om w lo hi v q) (hhi : hi ≤ w.heap.size) (hx : ∀ m ∈ q, m.x.length ≤ 1000000000) (hk1 : 1 ≤ k0) (hk0 : k0 ≤ 1000000000) :
  Calls Tryz.prog 23 #[v, .int .i64 (k0 : Int)] w fun e w' => e = .returned (.int .i64 ((k0 + cnq q : Nat) : Int)) ∧ Om w' lo hi v (mkq k0 q) ∧ Apart lo hi w w' := by
 rcases h with ⟨rfl, ao, cap, rfl⟩ | ⟨m, g, u, rfl, rfl, a1, a2, a3, a4, a5⟩
 ·
  go_enter Tryz.func23, Tryz.ntmps23
  go_wp2
  refine wp_loop_rounds 1 ?_; rw [rounds_succ]
  go_wp2
  go_ret
  exact ⟨rfl, Om.nil _ _ _ _ _, Apart.refl _ _ _⟩
 ·
  obtain ⟨l1, h1, d1, d2, d3, d4, o1⟩ := Own.narrow a5 a4 (by decide) (by omega)
  have hxl := hx m (List.mem_singleton.2 rfl)
  obtain ⟨ao, L, cap, rfl, _, _⟩ := o1.form
  obtain ⟨k, f, t, ⟨hn, hr⟩, n, x⟩ := m
  simp only [mc] at *
  obtain ⟨K1, hK1⟩ : ∃ K : Int, ((k0 + 1 : Nat) : Int) = K := ⟨_, rfl⟩
  obtain ⟨K2, hK2⟩ : ∃ K : Int, ((k0 + 2 : Nat) : Int) = K := ⟨_, rfl⟩
  obtain ⟨K3, hK3⟩ : ∃ K : Int, ((k0 + 3 : Nat) : Int) = K := ⟨_, rfl⟩
  obtain ⟨K4, hK4⟩ : ∃ K : Int, ((k0 + 4 : Nat) : Int) = K := ⟨_, rfl⟩
  obtain ⟨K5, hK5⟩ : ∃ K : Int, ((k0 + 5 : Nat) : Int) = K := ⟨_, rfl⟩
  obtain ⟨K6, hK6⟩ : ∃ K : Int, ((k0 + 6 : Nat) : Int) = K := ⟨_, rfl⟩
  have w0 : IntKind.i64.wrap ((k0 : Int) + 1) = K1 := by rw [IntKind.wrap_i64]; omega
  have w1 : IntKind.i64.wrap (K1 + 1) = K2 := by rw [IntKind.wrap_i64]; omega
  have w2 : IntKind.i64.wrap (K2 + 1) = K3 := by rw [IntKind.wrap_i64]; omega
  have w3 : IntKind.i64.wrap (K3 + 1) = K4 := by rw [IntKind.wrap_i64]; omega
  have w4 : IntKind.i64.wrap (K4 + 1) = K5 := by rw [IntKind.wrap_i64]; omega
  have w5 : IntKind.i64.wrap (K5 + 1) = K6 := by rw [IntKind.wrap_i64]; omega
  have qt : ∀ W, _ := fun W => Strs.mark_text W (k0 + 4) (by omega) (by omega)
  simp only [hK4] at qt
  have qs : ∀ W v1, Own W l1 h1 9 v1 (ss x) → h1 ≤ W.heap.size → _ := fun W v1 ho hh => Strs.marks_any W v1 l1 h1 x (k0 + 6) ho hh (by omega) (by omega) (by omega)
  simp only [hK6] at qs
  obtain ⟨K9, hK9⟩ : ∃ K : Int, ((k0 + 6 + x.length : Nat) : Int) = K := ⟨_, rfl⟩
  simp only [hK9] at qs
  have O0 : Hid (Own w l1 h1 9 (.slice ao L cap) (ss x)) := o1
  have A0 : Hid (Apart lo hi w w) := Apart.refl _ _ _
  have r0 : Hid (w.heap[g]? = some (.cells #[.int .i64 k, .int .i64 f, .int .i64 t, .int .i64 hn, .string hr, .int .i64 n, .slice ao L cap] 52 (0, 0))) := a4
  have HK : Hid (((k0 + (6 + x.length) : Nat) : Int) = K9) := by show _ = _; rw [← hK9]; congr 1; omega
  have HQ : Hid (mkq k0 [⟨k, f, t, ⟨hn, hr⟩, n, x⟩] = [⟨(k0 : Int), K1, K2, ⟨K3, Strs.mt (k0 + 4)⟩, K5, Strs.mts (k0 + 6) x.length⟩]) := by show _ = _; unfold mkq; rw [hK1, hK2, hK3, hK5]
  have z0 : h1 ≤ w.heap.size := by omega
  have c0 := Ke.c r0
  simp only [cnq]
  rw [HK.out, HQ.out]
  clear hK1 hK2 hK3 hK4 hK5 hK6 hK9 HK HQ a4 a5 o1 hx
  go_enter Tryz.func23, Tryz.ntmps23
  go_wp2
  refine wp_loop_rounds 2 ?_; rw [rounds_succ]
  go_wp2_with (refine wpl_oneG rfl 3 _ _ rfl g 0 (.int .i64 (k0 : Int)) rfl rfl [.int .i64 k, .int .i64 f, .int .i64 t, .int .i64 hn, .string hr, .int .i64 n, .slice ao L cap] 52 r0.out (Nat.le_of_ble_eq_true rfl) (by kernel_rfl) rfl [.int .i64 (k0 : Int), .int .i64 f, .int .i64 t, .int .i64 hn, .string hr, .int .i64 n, .slice ao L cap] rfl ?_)
  intro W1 r1 g1
  have O1 := Ke.t O0 r0 g1
  have r1 := Ke.h r1
  have A1 := Ke.h (Apart.groIn A0.out g1 a1 a2)
  have z1 := g1.size
  have c1 := Ke.c r1
  clear O0 r0 A0 c0 g1
  go_wp2_with (refine wpl_oneG rfl 3 _ _ rfl g 1 (.int .i64 K1) rfl rfl [.int .i64 (k0 : Int), .int .i64 f, .int .i64 t, .int .i64 hn, .string hr, .int .i64 n, .slice ao L cap] 52 r1.out (Nat.le_of_ble_eq_true rfl) (by kernel_rfl) rfl [.int .i64 (k0 : Int), .int .i64 K1, .int .i64 t, .int .i64 hn, .string hr, .int .i64 n, .slice ao L cap] rfl ?_)
  intro W2 r2 g2
  have O2 := Ke.t O1 r1 g2
  have r2 := Ke.h r2
  have A2 := Ke.h (Apart.groIn A1.out g2 a1 a2)
  have z2 := g2.size
  have c2 := Ke.c r2
  clear O1 r1 A1 c1 g2
  go_wp2_with (refine wpl_oneG rfl 3 _ _ rfl g 2 (.int .i64 K2) rfl rfl [.int .i64 (k0 : Int), .int .i64 K1, .int .i64 t, .int .i64 hn, .string hr, .int .i64 n, .slice ao L cap] 52 r2.out (Nat.le_of_ble_eq_true rfl) (by kernel_rfl) rfl [.int .i64 (k0 : Int), .int .i64 K1, .int .i64 K2, .int .i64 hn, .string hr, .int .i64 n, .slice ao L cap] rfl ?_)
  intro W3 r3 g3
  have O3 := Ke.t O2 r2 g3
  have r3 := Ke.h r3
  have A3 := Ke.h (Apart.groIn A2.out g3 a1 a2)
  have z3 := g3.size
  have c3 := Ke.c r3
  clear O2 r2 A2 c2 g3
  go_wp2_with (refine wpl_oneG rfl 3 _ _ rfl g 3 (.int .i64 K3) rfl rfl [.int .i64 (k0 : Int), .int .i64 K1, .int .i64 K2, .int .i64 hn, .string hr, .int .i64 n, .slice ao L cap] 52 r3.out (Nat.le_of_ble_eq_true rfl) (by kernel_rfl) rfl [.int .i64 (k0 : Int), .int .i64 K1, .int .i64 K2, .int .i64 K3, .string hr, .int .i64 n, .slice ao L cap] rfl ?_)
  intro W4 r4 g4
  have O4 := Ke.t O3 r3 g4
  have r4 := Ke.h r4
  have A4 := Ke.h (Apart.groIn A3.out g4 a1 a2)
  have z4 := g4.size
  have c4 := Ke.c r4
  clear O3 r3 A3 c3 g4
  go_wp2_with fail
  refine (qt W4).mono ?_
  rintro e W5 ⟨rfl, b5⟩
  have O5 := Ke.o O4 b5
  have r5 := Ke.r r4 b5
  have A5 := Ke.h (Apart.grow A4.out b5)
  have z5 := b5.size
  have c5 := Ke.c r5
  clear O4 r4 A4 c4 b5 qt
  go_wp2_with (refine wpl_oneG rfl 9 _ _ rfl g 4 (.string (Strs.mt (k0 + 4))) rfl rfl [.int .i64 (k0 : Int), .int .i64 K1, .int .i64 K2, .int .i64 K3, .string hr, .int .i64 n, .slice ao L cap] 52 r5.out (Nat.le_of_ble_eq_true rfl) (by kernel_rfl) rfl [.int .i64 (k0 : Int), .int .i64 K1, .int .i64 K2, .int .i64 K3, .string (Strs.mt (k0 + 4)), .int .i64 n, .slice ao L cap] rfl ?_)
  intro W6 r6 g6
  have O6 := Ke.t O5 r5 g6
  have r6 := Ke.h r6
  have A6 := Ke.h (Apart.groIn A5.out g6 a1 a2)
  have z6 := g6.size
  have c6 := Ke.c r6
  clear O5 r5 A5 c5 g6
  go_wp2_with (refine wpl_oneG rfl 3 _ _ rfl g 5 (.int .i64 K5) rfl rfl [.int .i64 (k0 : Int), .int .i64 K1, .int .i64 K2, .int .i64 K3, .string (Strs.mt (k0 + 4)), .int .i64 n, .slice ao L cap] 52 r6.out (Nat.le_of_ble_eq_true rfl) (by kernel_rfl) rfl [.int .i64 (k0 : Int), .int .i64 K1, .int .i64 K2, .int .i64 K3, .string (Strs.mt (k0 + 4)), .int .i64 K5, .slice ao L cap] rfl ?_)
  intro W7 r7 g7
  have O7 := Ke.t O6 r6 g7
  have r7 := Ke.h r7
  have A7 := Ke.h (Apart.groIn A6.out g7 a1 a2)
  have z7 := g7.size
  have c7 := Ke.c r7
  clear O6 r6 A6 c6 g7
  go_wp2_with fail
  refine (qs W7 _ O7.out (by omega)).mono ?_
  rintro e W8 ⟨rfl, o8, p8⟩
  have O8 := Ke.h o8
  have r8 := Ke.h ((p8.block g (by omega) (by omega)).trans r7.out)
  have A8 := Ke.h (Apart.wide A7.out p8 d1 d3)
  have z8 := p8.size
  clear O7 r7 A7 c7 p8 o8 qs
  go_wp2
  rw [rounds_succ]
  go_wp2
  go_ret
  exact ⟨rfl, .inr ⟨_, g, _, rfl, rfl, a1, a2, by omega, r8.out, O8.out.mono d1 d3⟩, A8.out⟩
set_option maxRecDepth 1000000 in
set_option maxHeartbeats 8000000 in
theorem held_msgs (w : World) (v : Value) (lo hi : Nat) (q : List Ms) (k0 : Nat) (h : Om w lo hi v (mkq k0 q)) (hx : ∀ m ∈ q, m.x.length ≤ 1000000000) (hk1 : 1 ≤ k0) (hk0 : k0 ≤ 1000000000) :
  Calls Tryz.prog 25 #[v, .int .i64 (k0 : Int)] w fun e w' => e = .returned (.int .i64 ((k0 + cnq q : Nat) : Int)) ∧ Below w.heap.size w w' := by
 cases q with
 | nil =>
  rcases h with ⟨_, ao, cap, rfl⟩ | ⟨m, g, u, h9, _⟩
  ·
   go_enter Tryz.func25, Tryz.ntmps25
   go_wp2
   refine wp_loop_rounds 1 ?_; rw [rounds_succ]
   go_wp2
   go_ret
   exact ⟨rfl, Below.refl _ _⟩
  ·
   cases h9
 | cons m q2 =>
  rcases h with ⟨h9, _⟩ | ⟨m2, g, u, h9, rfl, a1, a2, a3, a4, a5⟩
  ·
   cases h9
  have hxl := hx m (List.mem_cons_self ..)
  obtain ⟨x9, hx9⟩ : ∃ n, n = m.x.length := ⟨_, rfl⟩
  rw [← hx9] at hxl
  simp only [mkq, ← hx9] at h9
  injection h9 with h9
  subst h9
  obtain ⟨ao, L, cap, rfl, _, _⟩ := a5.form
  have S0 : Hid (Sl w (.slice ao L cap) (ss (Strs.mts (k0 + 6) x9))) := a5.sl
  simp only [mc] at a4
  obtain ⟨K1, hK1⟩ : ∃ K : Int, ((k0 + 1 : Nat) : Int) = K := ⟨_, rfl⟩
  obtain ⟨K2, hK2⟩ : ∃ K : Int, ((k0 + 2 : Nat) : Int) = K := ⟨_, rfl⟩
  obtain ⟨K3, hK3⟩ : ∃ K : Int, ((k0 + 3 : Nat) : Int) = K := ⟨_, rfl⟩
  obtain ⟨K4, hK4⟩ : ∃ K : Int, ((k0 + 4 : Nat) : Int) = K := ⟨_, rfl⟩
  obtain ⟨K5, hK5⟩ : ∃ K : Int, ((k0 + 5 : Nat) : Int) = K := ⟨_, rfl⟩
  obtain ⟨K6, hK6⟩ : ∃ K : Int, ((k0 + 6 : Nat) : Int) = K := ⟨_, rfl⟩
  have w0 : IntKind.i64.wrap ((k0 : Int) + 1) = K1 := by rw [IntKind.wrap_i64]; omega
  have w1 : IntKind.i64.wrap (K1 + 1) = K2 := by rw [IntKind.wrap_i64]; omega
  have w2 : IntKind.i64.wrap (K2 + 1) = K3 := by rw [IntKind.wrap_i64]; omega
  have w3 : IntKind.i64.wrap (K3 + 1) = K4 := by rw [IntKind.wrap_i64]; omega
  have w4 : IntKind.i64.wrap (K4 + 1) = K5 := by rw [IntKind.wrap_i64]; omega
  have w5 : IntKind.i64.wrap (K5 + 1) = K6 := by rw [IntKind.wrap_i64]; omega
  have n0 : ((k0 : Int) != (k0 : Int)) = false := by simp
  have n1 : (K1 != K1) = false := by simp
  have n2 : (K2 != K2) = false := by simp
  have n3 : (K3 != K3) = false := by simp
  have n4 : (K5 != K5) = false := by simp
  have m0 : ((k0 : Int) == (k0 : Int)) = true := by simp
  have m1 : (K1 == K1) = true := by simp
  have m2 : (K2 == K2) = true := by simp
  have m3 : (K3 == K3) = true := by simp
  have m4 : (K5 == K5) = true := by simp
  have qt : ∀ W, _ := fun W => Strs.mark_text W (k0 + 4) (by omega) (by omega)
  simp only [hK4] at qt
  have qs : ∀ W v1, Sl W v1 (ss (Strs.mts (k0 + 6) x9)) → _ := fun W v1 h1 => Strs.helds_any W v1 x9 (k0 + 6) h1 (by omega) (by omega) (by omega)
  simp only [hK6] at qs
  obtain ⟨K9, hK9⟩ : ∃ K : Int, ((k0 + 6 + x9 : Nat) : Int) = K := ⟨_, rfl⟩
  simp only [hK9] at qs
  have d9 : ¬ K9 < 0 := by omega
  have HK : Hid (((k0 + (6 + x9) : Nat) : Int) = K9) := by show _ = _; rw [← hK9]; congr 1; omega
  simp only [cnq, ← hx9]
  rw [HK.out]
  obtain ⟨T, hT⟩ : ∃ T, Strs.mt (k0 + 4) = T := ⟨_, rfl⟩
  simp only [hT] at qt
  have r0 : Hid (w.heap[g]? = some (.cells #[.int .i64 (k0 : Int), .int .i64 K1, .int .i64 K2, .int .i64 K3, .string T, .int .i64 K5, .slice ao L cap] 52 (0, 0))) := by show _ = _; rw [a4, hT, hK1, hK2, hK3, hK5]
  have c0 := Ke.c r0
  clear hK1 hK2 hK3 hK4 hK5 hK6 hK9 HK a4 a5 hx hT hx9
  go_enter Tryz.func25, Tryz.ntmps25
  go_wp2
  refine wp_loop_rounds 2 ?_; rw [rounds_succ]
  go_wp2_with fail
  refine wp_region_held_drew (S := fun w' => ∀ j, w'.cell? ⟨g, j, none⟩ = #[.int .i64 (k0 : Int), .int .i64 K1, .int .i64 K2, .int .i64 K3, .string T, .int .i64 K5, .slice ao L cap][j]?) (by kernel_rfl) c0 (fun hHeld => ?_)
  refine Ke.y 0 rfl (fun _ _ _ h => h) ?_
  try simp only [Act.put, pu1, pu2, pu3, pu4, pu5, pu6]
  refine Ke.y 1 rfl (fun _ _ _ h => h) ?_
  try simp only [Act.put, pu1, pu2, pu3, pu4, pu5, pu6]
  refine Ke.y 2 rfl (fun _ _ _ h => h) ?_
  try simp only [Act.put, pu1, pu2, pu3, pu4, pu5, pu6]
  refine Ke.y 3 rfl (fun _ _ _ h => h) ?_
  try simp only [Act.put, pu1, pu2, pu3, pu4, pu5, pu6]
  refine Ke.y 4 rfl (fun _ _ _ h => h) ?_
  try simp only [Act.put, pu1, pu2, pu3, pu4, pu5, pu6]
  refine Ke.y 5 rfl (fun _ _ _ h => h) ?_
  try simp only [Act.put, pu1, pu2, pu3, pu4, pu5, pu6]
  refine Ke.y 6 rfl (fun _ _ _ h => h) ?_
  try simp only [Act.put, pu1, pu2, pu3, pu4, pu5, pu6]
  refine Ke.z 7 rfl (fun K hK => ?_)
  go_simp
  refine (qt _).mono ?_
  rintro e W1 ⟨rfl, b1⟩
  have b1 : Below w.heap.size w W1 := (Below.drew (Below.refl _ _)).trans b1
  refine hK.out _ _ (Ke.k (W := w) hHeld b1) (fun hHeld => ?_)
  clear hK K
  try simp only [Act.put, pu1, pu2, pu3, pu4, pu5, pu6]
  refine Ke.y 8 rfl (fun _ _ _ h => h) ?_
  try simp only [Act.put, pu1, pu2, pu3, pu4, pu5, pu6]
  refine wpAnyH_done (by kernel_rfl) ?_ _
  clear hHeld
  have r1 := Ke.r r0 b1
  have c1 := Ke.c r1
  have B1 := Ke.h b1
  clear c0 r0 qt b1
  go_wp2_with fail
  refine (qs W1 _ (S0.out.later B1.out)).mono ?_
  rintro e W2 ⟨rfl, b2⟩
  have B2 := Ke.b B1 b2
  clear qs c1 r1 B1 b2
  go_wp2
  rw [rounds_succ]
  go_wp2
  go_ret
  exact ⟨rfl, B2.out⟩
end Go.Proofs.YtchonoonclllbabGreatDoor.Mi
namespace Go.Proofs.YtchonoonclllbabGreatDoor.Mi
open Go.RowKit Go.Proofs.YtchonoonclllbabGreatDoor.Mem Go.Proofs.YtchonoonclllbabGreatDoor.Laws Go.Proofs.YtchonoonclllbabGreatDoor.Bytes Go.Proofs.YtchonoonclllbabGreatDoor.Sha Go.Proofs.YtchonoonclllbabGreatDoor.Tr Go.Proofs.YtchonoonclllbabGreatDoor.He Go.Proofs.YtchonoonclllbabGreatDoor.Lg Go.Proofs.YtchonoonclllbabGreatDoor.Sr Go.Proofs.YtchonoonclllbabGreatDoor.Mg
set_option linter.unusedVariables false
def Oq (w : World) (lo hi : Nat) (v : Value) (t : List Hd) : Prop := Oh w lo hi v t ∧ hi ≤ w.heap.size
theorem Oq.later {w w' : World} {lo hi : Nat} {v : Value} {t : List Hd} (h : Oq w lo hi v t) (b : Below w.heap.size w w') : Oq w' lo hi v t := ⟨h.1.later b h.2, Nat.le_trans h.2 b.size⟩
theorem Oq.apart {w w' : World} {lo hi lo' hi' : Nat} {v : Value} {t : List Hd} (h : Oq w lo hi v t) (a : Apart lo' hi' w w') (hd : hi ≤ lo' ∨ hi' ≤ lo) : Oq w' lo hi v t := ⟨On.apart h.1 a (by omega) h.2, Nat.le_trans h.2 a.size⟩
theorem Oq.apart2 {w w' : World} {lo hi l1 h1 l2 h2 : Nat} {v : Value} {t : List Hd} (h : Oq w lo hi v t) (p : Apart2 l1 h1 l2 h2 w w') (d1 : hi ≤ l1 ∨ h1 ≤ lo) (d2 : hi ≤ l2 ∨ h2 ≤ lo) : Oq w' lo hi v t := by
 obtain ⟨q, a, b⟩ := p
 exact (h.apart a d1).apart b d2
def Omx (w : World) (lo hi : Nat) (v : Value) (q : List Ms) : Prop := Om w lo hi v q ∧ hi ≤ w.heap.size
theorem Omx.later {w w' : World} {lo hi : Nat} {v : Value} {q : List Ms} (h : Omx w lo hi v q) (b : Below w.heap.size w w') : Omx w' lo hi v q := ⟨h.1.later b h.2, Nat.le_trans h.2 b.size⟩
theorem Omx.apart {w w' : World} {lo hi lo' hi' : Nat} {v : Value} {q : List Ms} (h : Omx w lo hi v q) (a : Apart lo' hi' w w') (hd : hi ≤ lo' ∨ hi' ≤ lo) : Omx w' lo hi v q := ⟨Om.apart h.1 a hd h.2, Nat.le_trans h.2 a.size⟩
theorem Omx.apart2 {w w' : World} {lo hi l1 h1 l2 h2 : Nat} {v : Value} {q : List Ms} (h : Omx w lo hi v q) (p : Apart2 l1 h1 l2 h2 w w') (d1 : hi ≤ l1 ∨ h1 ≤ lo) (d2 : hi ≤ l2 ∨ h2 ≤ lo) : Omx w' lo hi v q := by
 obtain ⟨z, a, b⟩ := p
 exact (h.apart a d1).apart b d2
theorem tot_mem14 : ∀ (l : List ByteArray) (s : ByteArray), s ∈ l → s.size ≤ Puts.tot l := by
 intro l
 induction l with
 | nil => intro s h; cases h
 | cons a r ih =>
  intro s h
  simp only [Puts.tot]
  rcases List.mem_cons.1 h with rfl | h
  ·
   omega
  ·
   have := ih s h; omega
theorem ask1_len (m : Mr) (to : Int) : ∀ q ∈ ask1 m to, q.x.length ≤ 1000000000 := by
 intro q hq
 unfold ask1 at hq
 split at hq
 ·
  obtain rfl := List.mem_singleton.1 hq; simp
 ·
  cases hq
theorem ask_len (m : Mr) (to : Int) : ∀ q ∈ ask m to, q.x.length ≤ 1000000000 := by
 intro q hq
 unfold ask at hq
 split at hq
 ·
  exact ask1_len m to q hq
 ·
  cases hq
theorem askFor_len (m : Mr) (t : List Hd) (to : Int) : ∀ q ∈ askFor m t to, q.x.length ≤ 1000000000 := by
 intro q hq
 unfold askFor at hq
 split at hq
 ·
  exact ask_len m to q hq
 ·
  cases hq
theorem gossip_len (m : Mr) (t : List Hd) (to : Int) : ∀ q ∈ gossip m t to, q.x.length ≤ 1000000000 := by
 intro q hq
 unfold gossip gossip1 at hq
 split at hq
 ·
  split at hq
  ·
   obtain rfl := List.mem_singleton.1 hq; simp
  ·
   cases hq
 ·
  cases hq
end Go.Proofs.YtchonoonclllbabGreatDoor.Mi
