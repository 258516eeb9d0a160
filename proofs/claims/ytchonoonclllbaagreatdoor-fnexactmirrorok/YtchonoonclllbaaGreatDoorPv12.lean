/- Texts in one: SrH, MiM, MiO, MiH. -/
import Derived.Test.YtchonoonclllbaaGreatDoorPv6
import Derived.Test.YtchonoonclllbaaGreatDoorPv11
import Derived.Test.YtchonoonclllbaaGreatDoorPv5
import Derived.Test.YtchonoonclllbaaGreatDoorPv10
import Derived.Test.YtchonoonclllbaaGreatDoorPv9
namespace Go.Proofs.YtchonoonclllbaaGreatDoor.Sr
open Go.RowKit Go.Proofs.YtchonoonclllbaaGreatDoor.Mem Go.Proofs.YtchonoonclllbaaGreatDoor.Laws Go.Proofs.YtchonoonclllbaaGreatDoor.Bytes Go.Proofs.YtchonoonclllbaaGreatDoor.Sha Go.Proofs.YtchonoonclllbaaGreatDoor.Tr Go.Proofs.YtchonoonclllbaaGreatDoor.He Go.Proofs.YtchonoonclllbaaGreatDoor.Lg
set_option linter.unusedVariables false
set_option linter.unusedSimpArgs false
theorem pairN {w : World} {lo hi : Nat} {v vb : Value} {cs ds : List Value} (h : Own w lo hi 9 v cs) (k : Own w lo hi 5 vb ds) (hh : lo ≤ hi) : ∃ l1 h1 l2 h2, lo ≤ l1 ∧ l1 ≤ h1 ∧ h1 ≤ hi ∧ lo ≤ l2 ∧ l2 ≤ h2 ∧ h2 ≤ hi ∧ (h1 ≤ l2 ∨ h2 ≤ l1) ∧ Own w l1 h1 9 v cs ∧ Own w l2 h2 5 vb ds := by
 have one : ∀ (e : TypeId) (u : Value) (es : List Value), Own w lo hi e u es → ∃ l1 h1, lo ≤ l1 ∧ l1 ≤ h1 ∧ h1 ≤ hi ∧ Own w l1 h1 e u es ∧ (l1 = h1 ∧ l1 = lo ∨ h1 = l1 + 1 ∧ u.ownBlock = some l1) := by
  intro e u es ho
  obtain ⟨⟨h1, h2⟩, h3⟩ := ho
  rcases h2 with ⟨rfl, h0⟩ | ⟨g, cap, cur, rfl, hb, hg, q⟩
  ·
   exact ⟨lo, lo, Nat.le_refl _, Nat.le_refl _, hh, ⟨⟨h1, Or.inl ⟨rfl, h0⟩⟩, fun g hg => by simp [Value.ownBlock] at hg⟩, Or.inl ⟨rfl, rfl⟩⟩
  ·
   have hl := h3 g rfl
   exact ⟨g, g + 1, hb, by omega, hl, ⟨⟨h1, Or.inr ⟨g, cap, cur, rfl, Nat.le_refl _, hg, q⟩⟩, fun g' hg' => by simp [Value.ownBlock] at hg'; omega⟩, Or.inr ⟨rfl, rfl⟩⟩
 obtain ⟨l1, h1, a1, a2, a3, a4, a5⟩ := one 9 v cs h
 obtain ⟨l2, h2, b1, b2, b3, b4, b5⟩ := one 5 vb ds k
 refine ⟨l1, h1, l2, h2, a1, a2, a3, b1, b2, b3, ?_, a4, b4⟩
 rcases a5 with a5 | ⟨a5, a6⟩
 ·
  omega
 ·
  rcases b5 with b5 | ⟨b5, b6⟩
  ·
   omega
  ·
   have hne := Own.neOwn h k (by decide) l2 b6
   have : l1 ≠ l2 := fun e => hne (by rw [a6, e])
   omega
def Apart2 (l1 h1 l2 h2 : Nat) (w w' : World) : Prop := ∃ m, Apart l1 h1 w m ∧ Apart l2 h2 m w'
theorem Apart2.size {l1 h1 l2 h2 : Nat} {w w' : World} (h : Apart2 l1 h1 l2 h2 w w') : w.heap.size ≤ w'.heap.size := by
 obtain ⟨m, a, b⟩ := h
 exact Nat.le_trans a.size b.size
theorem Apart2.block {l1 h1 l2 h2 : Nat} {w w' : World} (h : Apart2 l1 h1 l2 h2 w w') (k : Nat) (hk : k < w.heap.size) (d1 : k < l1 ∨ h1 ≤ k) (d2 : k < l2 ∨ h2 ≤ k) : w'.heap[k]? = w.heap[k]? := by
 obtain ⟨m, a, b⟩ := h
 rw [b.block k (Nat.lt_of_lt_of_le hk a.size) (by omega), a.block k hk (by omega)]
theorem Apart2.below {l1 h1 l2 h2 B : Nat} {w w' : World} (h : Apart2 l1 h1 l2 h2 w w') (d1 : B ≤ l1) (d2 : B ≤ l2) (hB : B ≤ w.heap.size) : Below B w w' := by
 obtain ⟨m, a, b⟩ := h
 exact (a.below d1 hB).trans (b.below d2 (Nat.le_trans hB a.size))
set_option maxRecDepth 1000000 in
set_option maxHeartbeats 4000000 in
theorem to_store (w : World) (v vb : Value) (l : List ByteArray) (h : Hd) (b : List Int) (s : Int) (hs : Sl w v (ss l)) (hb : Sl w vb (bs b)) (hl : l.length ≤ 1000000000) (hbl : b.length ≤ 1000000000) :
  Calls Tryz.prog 76 #[.agg #[v, .int .i64 h.n, .string h.r, vb, .int .i64 s]] w fun e w' => ∃ v' vb', e = .returned (.agg #[v', .int .i64 h.n, .string h.r, vb', .int .i64 s]) ∧ Own w' w.heap.size w'.heap.size 9 v' (ss l) ∧ Own w' w.heap.size w'.heap.size 5 vb' (bs b) ∧ Below w.heap.size w w' := by
 have HS : Hid (Sl w v (ss l)) := hs
 have HSB : Hid (Sl w vb (bs b)) := hb
 obtain ⟨ao0, cap0, rfl, hc0⟩ := hs.form
 obtain ⟨ao1, cap1, rfl, hc1⟩ := hb.form
 simp only [ss_len, bs_len] at *
 clear hs hb
 have B0 : Hid (Below w.heap.size w w) := Below.refl _ _
 obtain ⟨W1, HW1, b1, y1, hS1, r_a1, r_res1, r_out1⟩ := Ke.l3 w #[.slice ao0 l.length cap0, .int .i64 h.n, .string h.r, .slice ao1 b.length cap1, .int .i64 s] 61 #[.slice none 0 0, .int .i64 0, .string ⟨#[]⟩, .slice none 0 0, .int .i64 0] 30 #[.slice none 0 0, .int .i64 0, .string ⟨#[]⟩, .slice none 0 0, .int .i64 0] 30
 have z1 := b1.size
 have B1 := Ke.b B0 b1
 have q1 : ∀ W v1, Sl W v1 (ss l) → _ := fun W v1 h1 => to_log W v1 l h h1 (by omega)
 have q2 : ∀ W v1, Sl W v1 (bs b) → _ := fun W v1 h1 => to_any W v1 b h1 (by omega)
 go_enter Tryz.func76, Tryz.ntmps76
 go_wp2_with fail
 rw [HW1.out]
 refine (q1 W1 _ (HS.out.later B1.out)).mono ?_
 rintro e W2 ⟨v_s, rfl, o_s2, b2⟩
 obtain ⟨ao_s, L_s, cap_s, rfl, hL_s, hM_s⟩ := o_s2.form
 have o_s2 : Hid (Own W2 W1.heap.size W2.heap.size 9 (.slice ao_s L_s cap_s) (ss l)) := o_s2
 clear hL_s hM_s
 have z2 := b2.size
 have B2 := Ke.b B1 b2
 have r_a2 := Ke.r r_a1 b2
 have r_res2 := Ke.r r_res1 b2
 have r_out2 := Ke.r r_out1 b2
 clear r_a1 r_res1 r_out1
 go_wp2_with (refine wpl_partG rfl 28 _ _ rfl (w.heap.size + 1 + 1) 0 (lc (.slice ao_s L_s cap_s) h) rfl rfl [.slice none 0 0, .int .i64 0, .string ⟨#[]⟩, .slice none 0 0, .int .i64 0] 30 r_out2.out (Nat.le_of_ble_eq_true rfl) (sizeL _ _) (oneL _ rfl) [.slice ao_s L_s cap_s, .int .i64 h.n, .string h.r, .slice none 0 0, .int .i64 0] rfl ?_)
 intro W3 r_out3 g3
 have r_out3 := Ke.h r_out3
 have z3 := g3.size
 have B3 : Hid (Below w.heap.size w W3) := belowGro B2.out g3 B2.out.size (fun k9 h9 => by injection h9 with h9; have := B2.out.size; omega)
 have r_a3 := Ke.s r_a2 g3
 have r_res3 := Ke.s r_res2 g3
 have o_s3 := Ke.t o_s2 r_out2 g3
 have c_a3 := Ke.c r_a3
 clear r_a2 r_res2 o_s2
 clear r_out2
 clear g3
 go_wp2_with fail
 refine (q2 W3 _ (HSB.out.later B3.out)).mono ?_
 rintro e W4 ⟨v_p, rfl, o_p4, b4⟩
 obtain ⟨ao_p, L_p, cap_p, rfl, hL_p, hM_p⟩ := o_p4.form
 have o_p4 : Hid (Own W4 W3.heap.size W4.heap.size 5 (.slice ao_p L_p cap_p) (bs b)) := o_p4
 clear hL_p hM_p
 have z4 := b4.size
 have B4 := Ke.b B3 b4
 have r_a4 := Ke.r r_a3 b4
 have r_res4 := Ke.r r_res3 b4
 have r_out4 := Ke.r r_out3 b4
 have o_s4 := Ke.o o_s3 b4
 clear r_a3 c_a3 r_res3 r_out3 o_s3
 go_wp2_with (refine wpl_oneG rfl 22 _ _ rfl (w.heap.size + 1 + 1) 3 (.slice ao_p L_p cap_p) rfl rfl [.slice ao_s L_s cap_s, .int .i64 h.n, .string h.r, .slice none 0 0, .int .i64 0] 30 r_out4.out (Nat.le_of_ble_eq_true rfl) (by kernel_rfl) rfl [.slice ao_s L_s cap_s, .int .i64 h.n, .string h.r, .slice ao_p L_p cap_p, .int .i64 0] rfl ?_)
 intro W5 r_out5 g5
 have r_out5 := Ke.h r_out5
 have z5 := g5.size
 have B5 : Hid (Below w.heap.size w W5) := belowGro B4.out g5 B4.out.size (fun k9 h9 => by injection h9 with h9; have := B4.out.size; omega)
 have r_a5 := Ke.s r_a4 g5
 have r_res5 := Ke.s r_res4 g5
 have o_s5 := Ke.t o_s4 r_out4 g5
 have o_p5 := Ke.t o_p4 r_out4 g5
 have c_a5 := Ke.c r_a5
 clear r_a4 r_res4 o_s4 o_p4
 clear r_out4
 clear g5
 go_wp2_with (refine wpl_oneG rfl 3 _ _ rfl (w.heap.size + 1 + 1) 4 (.int .i64 s) rfl rfl [.slice ao_s L_s cap_s, .int .i64 h.n, .string h.r, .slice ao_p L_p cap_p, .int .i64 0] 30 r_out5.out (Nat.le_of_ble_eq_true rfl) (by kernel_rfl) rfl [.slice ao_s L_s cap_s, .int .i64 h.n, .string h.r, .slice ao_p L_p cap_p, .int .i64 s] rfl ?_)
 intro W6 r_out6 g6
 have r_out6 := Ke.h r_out6
 have z6 := g6.size
 have B6 : Hid (Below w.heap.size w W6) := belowGro B5.out g6 B5.out.size (fun k9 h9 => by injection h9 with h9; have := B5.out.size; omega)
 have r_res6 := Ke.s r_res5 g6
 have o_s6 := Ke.t o_s5 r_out5 g6
 have o_p6 := Ke.t o_p5 r_out5 g6
 clear r_a5 c_a5 r_res5 o_s5 o_p5
 clear r_out5
 clear g6
 go_wp2_with (first | (refine wpList_load_row rfl 30 _ rfl (w.heap.size + 1 + 1) rfl 30 (sc (.slice ao_s L_s cap_s) h (.slice ao_p L_p cap_p) s) (0, 0) _ r_out6.out Tryz.underlying30 rfl (sizeS _ _ _ _) ?_) | (refine wpList_store_row rfl 30 _ _ rfl (w.heap.size + 1) (sc (.slice ao_s L_s cap_s) h (.slice ao_p L_p cap_p) s) rfl rfl 30 _ r_res6.out (sizeS _ _ _ _) rfl (oneS _ _ rfl rfl) ?_))
 exact bodyPost_ret (v := .agg (sc (.slice ao_s L_s cap_s) h (.slice ao_p L_p cap_p) s)) (results_cell_row rfl _ _ (w.heap.size + 1) 30 _ (0, 0) _ rfl (setRow_heap _ _ _ _ _ (0, 0) r_res6.out) Tryz.underlying30 rfl (sizeS _ _ _ _)) rfl ⟨_, _, rfl, (Own.setRow o_s6.out _ (by omega)).mono (by omega) (by rw [size_setRow]; omega), (Own.setRow o_p6.out _ (by omega)).mono (by omega) (by rw [size_setRow]; omega), below_setRow B6.out (by omega) _⟩
set_option maxRecDepth 1000000 in
theorem sz_bytes (w : World) (ao : Option Addr) (n cap : Nat) (r : Int) (h0 : 0 ≤ r) (h1 : r ≤ 1048576) (hn : n ≤ 9223372036854775807) :
  Calls Tryz.prog 122 #[.slice ao n cap, .int .i64 r] w fun e w' => e = .returned (.int .i64 (if r - (n : Int) < 0 then -1 else r - (n : Int))) ∧ w' = w := by
 have wr : IntKind.i64.wrap (r - (n : Int)) = r - (n : Int) := by rw [IntKind.wrap_i64]; omega
 by_cases hb : r - (n : Int) < 0
 ·
  rw [if_pos hb]
  go_enter Tryz.func122, Tryz.ntmps122
  go_wp2
  go_ret
  exact ⟨rfl, rfl⟩
 ·
  rw [if_neg hb]
  go_enter Tryz.func122, Tryz.ntmps122
  go_wp2
  go_ret
  exact ⟨rfl, rfl⟩
set_option maxRecDepth 1000000 in
set_option maxHeartbeats 4000000 in
theorem sz_store (w : World) (v vb : Value) (l : List ByteArray) (h : Hd) (b : List Int) (s : Int) (hs : Sl w v (ss l)) (hb : Sl w vb (bs b)) (hz : ∀ s ∈ l, s.size ≤ 9223372036854775807) (hl : l.length ≤ 9223372036854775807) (hbl : b.length ≤ 9223372036854775807) (hr : h.r.size ≤ 9223372036854775807) :
  Calls Tryz.prog 74 #[.agg #[v, .int .i64 h.n, .string h.r, vb, .int .i64 s], .int .i64 1048576] w fun e w' => (∃ r : Int, e = .returned (.int .i64 r) ∧ (r < 0 ∨ (l.length + Puts.tot l ≤ 1048576 ∧ h.r.size ≤ 1048576 ∧ b.length ≤ 1048576 ∧ 0 ≤ r ∧ r ≤ 1048576))) ∧ Below w.heap.size w w' := by
 have HS : Hid (Sl w v (ss l)) := hs
 obtain ⟨ao0, cap0, rfl, hc0⟩ := hs.form
 obtain ⟨ao1, cap1, rfl, hc1⟩ := hb.form
 simp only [ss_len, bs_len] at *
 clear hs hb
 have B0 : Hid (Below w.heap.size w w) := Below.refl _ _
 obtain ⟨W1, HW1, b1, y1, hS1, r_a1⟩ := Ke.l1 w #[.slice ao0 l.length cap0, .int .i64 h.n, .string h.r, .slice ao1 b.length cap1, .int .i64 s] 61
 have z1 := b1.size
 have B1 := Ke.b B0 b1
 have q1 := sz_log W1 _ l h 1048576 (HS.out.later B1.out) hz hl hr (Nat.le_refl _)
 clear hz
 go_enter Tryz.func74, Tryz.ntmps74
 go_wp2_with fail
 rw [HW1.out]
 refine q1.mono ?_
 rintro e W2 ⟨⟨r, rfl, hr0⟩, b2⟩
 clear q1
 have z2 := b2.size
 have B2 := Ke.b B1 b2
 have r_a2 := Ke.r r_a1 b2
 have c_a2 := Ke.c r_a2
 clear r_a1
 by_cases h0 : r < 0
 ·
  go_wp2
  go_ret
  exact ⟨⟨-1, rfl, .inl (by omega)⟩, B2.out⟩
 ·
  rcases hr0 with hr0 | ⟨hr1, hr2, hr3, hr4⟩
  ·
   exact absurd hr0 h0
  have q2 : ∀ W, _ := fun W => sz_bytes W ao1 b.length cap1 r hr3 (by omega) hbl
  by_cases hb : r - (b.length : Int) < 0
  ·
   simp only [if_pos hb] at q2
   go_wp2_with fail
   refine (q2 W2).mono ?_
   rintro e W_ ⟨rfl, hW_⟩
   have hW_ := hW_.symm
   subst hW_
   go_wp2
   go_ret
   exact ⟨⟨-1, rfl, .inl (by omega)⟩, B2.out⟩
  ·
   simp only [if_neg hb] at q2
   have h5 : b.length ≤ 1048576 := by omega
   obtain ⟨m, hm⟩ : ∃ m, r - (b.length : Int) = m := ⟨_, rfl⟩
   have hm2 : 0 ≤ m ∧ m ≤ 1048576 := by omega
   rw [hm] at hb
   simp only [hm] at q2
   clear hm
   go_wp2_with fail
   refine (q2 W2).mono ?_
   rintro e W_ ⟨rfl, hW_⟩
   have hW_ := hW_.symm
   subst hW_
   go_wp2
   go_ret
   exact ⟨⟨m, rfl, .inr ⟨hr1, hr2, h5, hm2.1, hm2.2⟩⟩, B2.out⟩
set_option maxRecDepth 1000000 in
set_option maxHeartbeats 4000000 in
theorem eq_store (w : World) (v1 v2 b1 b2 : Value) (l : List ByteArray) (h : Hd) (b : List Int) (s : Int) (s1 : Sl w v1 (ss l)) (s2 : Sl w v2 (ss l)) (t1 : Sl w b1 (bs b)) (t2 : Sl w b2 (bs b)) (hl : l.length ≤ 1000000000) (hbl : b.length ≤ 1000000000) :
  Calls Tryz.prog 78 #[.agg #[v1, .int .i64 h.n, .string h.r, b1, .int .i64 s], .agg #[v2, .int .i64 h.n, .string h.r, b2, .int .i64 s]] w fun e w' => e = .returned (.bool true) ∧ Below w.heap.size w w' := by
 have S1 : Hid (Sl w v1 (ss l)) := s1
 have S2 : Hid (Sl w v2 (ss l)) := s2
 have T1 : Hid (Sl w b1 (bs b)) := t1
 have T2 : Hid (Sl w b2 (bs b)) := t2
 obtain ⟨ao0, cap0, rfl, hc0⟩ := s1.form
 obtain ⟨ao1, cap1, rfl, hc1⟩ := t1.form
 obtain ⟨ao2, cap2, rfl, hc2⟩ := s2.form
 obtain ⟨ao3, cap3, rfl, hc3⟩ := t2.form
 simp only [ss_len, bs_len] at *
 have n1 : (s != s) = false := by simp
 have n2 : (s == s) = true := by simp
 clear s1 s2 t1 t2
 have B0 : Hid (Below w.heap.size w w) := Below.refl _ _
 obtain ⟨W1, HW1, b1, y1, hS1, r_a1, r_b1⟩ := Ke.l2 w #[.slice ao0 l.length cap0, .int .i64 h.n, .string h.r, .slice ao1 b.length cap1, .int .i64 s] 30 #[.slice ao2 l.length cap2, .int .i64 h.n, .string h.r, .slice ao3 b.length cap3, .int .i64 s] 30
 have z1 := b1.size
 have B1 := Ke.b B0 b1
 go_enter Tryz.func78, Tryz.ntmps78
 go_wp2_with fail
 rw [HW1.out]
 refine (eq_log W1 h _ _ l (S1.out.later B1.out) (S2.out.later B1.out) (by omega)).mono ?_
 rintro e W2 ⟨rfl, b2⟩
 have z2 := b2.size
 have B2 := Ke.b B1 b2
 have r_a2 := Ke.r r_a1 b2
 have r_b2 := Ke.r r_b1 b2
 have c_a2 := Ke.c r_a2
 have c_b2 := Ke.c r_b2
 clear r_a1 r_b1
 go_wp2_with fail
 refine (eq_true W2 _ _ b (T1.out.later B2.out) (T2.out.later B2.out) (by omega)).mono ?_
 rintro e W3 ⟨rfl, h3, _⟩
 have b3 : Below W2.heap.size W2 W3 := h3 _
 clear h3
 have z3 := b3.size
 have B3 := Ke.b B2 b3
 have r_a3 := Ke.r r_a2 b3
 have r_b3 := Ke.r r_b2 b3
 have c_a3 := Ke.c r_a3
 have c_b3 := Ke.c r_b3
 clear r_a2 c_a2 r_b2 c_b2
 go_wp2
 go_ret
 exact ⟨rfl, B3.out⟩
end Go.Proofs.YtchonoonclllbaaGreatDoor.Sr
namespace Go.Proofs.YtchonoonclllbaaGreatDoor.Mi
open Go.RowKit Go.Proofs.YtchonoonclllbaaGreatDoor.Mem Go.Proofs.YtchonoonclllbaaGreatDoor.Laws Go.Proofs.YtchonoonclllbaaGreatDoor.Bytes Go.Proofs.YtchonoonclllbaaGreatDoor.Sha Go.Proofs.YtchonoonclllbaaGreatDoor.Tr Go.Proofs.YtchonoonclllbaaGreatDoor.He Go.Proofs.YtchonoonclllbaaGreatDoor.Lg Go.Proofs.YtchonoonclllbaaGreatDoor.Sr Go.Proofs.YtchonoonclllbaaGreatDoor.Mg
set_option linter.unusedVariables false
set_option linter.unusedSimpArgs false
def Om (w : World) (lo hi : Nat) (v : Value) (q : List Ms) : Prop :=
 (q = [] ∧ ∃ ao cap, v = .slice ao 0 cap) ∨ (∃ m g u, q = [m] ∧ v = .slice (some ⟨g, 0, none⟩) 1 1 ∧ lo ≤ g ∧ g < hi ∧ hi ≤ w.heap.size ∧ w.heap[g]? = some (.cells (mc m u) 35 (0, 0)) ∧ Own w lo hi 9 u (ss m.x))
theorem Om.nil (w : World) (lo hi : Nat) (ao : Option Addr) (cap : Nat) : Om w lo hi (.slice ao 0 cap) [] := .inl ⟨rfl, _, _, rfl⟩
theorem Om.form {w : World} {lo hi : Nat} {v : Value} {q : List Ms} (h : Om w lo hi v q) : ∃ ao L cap, v = .slice ao L cap ∧ L = q.length ∧ L ≤ 1 := by
 rcases h with ⟨rfl, ao, cap, rfl⟩ | ⟨m, g, u, rfl, rfl, _⟩
 ·
  exact ⟨_, _, _, rfl, rfl, by simp⟩
 ·
  exact ⟨_, _, _, rfl, rfl, by simp⟩
theorem Om.later {w w' : World} {lo hi B : Nat} {v : Value} {q : List Ms} (h : Om w lo hi v q) (b : Below B w w') (hh : hi ≤ B) : Om w' lo hi v q := by
 rcases h with ⟨rfl, h⟩ | ⟨m, g, u, rfl, rfl, h1, h2, h3, h4, h5⟩
 ·
  exact .inl ⟨rfl, h⟩
 ·
  exact .inr ⟨m, g, u, rfl, rfl, h1, h2, Nat.le_trans h3 b.size, (b.block g (by omega)).trans h4, Own.later h5 b hh⟩
theorem Om.mono {w : World} {lo hi lo' hi' : Nat} {v : Value} {q : List Ms} (h : Om w lo hi v q) (h1 : lo' ≤ lo) (h2 : hi ≤ hi') (h3 : hi' ≤ w.heap.size) : Om w lo' hi' v q := by
 rcases h with ⟨rfl, h⟩ | ⟨m, g, u, rfl, rfl, a1, a2, a3, a4, a5⟩
 ·
  exact .inl ⟨rfl, h⟩
 ·
  exact .inr ⟨m, g, u, rfl, rfl, by omega, by omega, h3, a4, a5.mono h1 h2⟩
theorem Om.apart {w w' : World} {lo hi l h : Nat} {v : Value} {q : List Ms} (o : Om w lo hi v q) (p : Apart l h w w') (d : hi ≤ l ∨ h ≤ lo) (hs : hi ≤ w.heap.size) : Om w' lo hi v q := by
 rcases o with ⟨rfl, o⟩ | ⟨m, g, u, rfl, rfl, a1, a2, a3, a4, a5⟩
 ·
  exact .inl ⟨rfl, o⟩
 ·
  exact .inr ⟨m, g, u, rfl, rfl, a1, a2, Nat.le_trans a3 p.size, (p.block g (by omega) (by omega)).trans a4, Own.apart a5 p d hs⟩
theorem Om.setRow {w : World} {lo hi x : Nat} {v : Value} {q : List Ms} (o : Om w lo hi v q) (form : Array Value) (d : x < lo ∨ hi ≤ x) : Om (w.setRow x form) lo hi v q := by
 rcases o with ⟨rfl, o⟩ | ⟨m, g, u, rfl, rfl, a1, a2, a3, a4, a5⟩
 ·
  exact .inl ⟨rfl, o⟩
 ·
  exact .inr ⟨m, g, u, rfl, rfl, a1, a2, by rw [size_setRow]; exact a3, (setRow_other _ _ _ _ (by omega)).trans a4, Own.setRow a5 _ (by omega)⟩
theorem Om.one {w : World} {lo : Nat} {u : Value} (m : Ms) (h : Own w lo w.heap.size 9 u (ss m.x)) (hl : lo ≤ w.heap.size) : Om (w.alloc (.cells (mc m u) 35)) lo (w.alloc (.cells (mc m u) 35)).heap.size (.slice (some ⟨w.heap.size, 0, none⟩) 1 1) [m] :=
 .inr ⟨m, w.heap.size, u, rfl, rfl, hl, by simp, Nat.le_refl _, heap_alloc_new w _, (Own.later h ((Below.refl _ _).alloc (Nat.le_refl _) _) (Nat.le_refl _)).mono (Nat.le_refl _) (by simp)⟩
end Go.Proofs.YtchonoonclllbaaGreatDoor.Mi
namespace Go.Proofs.YtchonoonclllbaaGreatDoor.Mi
open Go.RowKit Go.Proofs.YtchonoonclllbaaGreatDoor.Mem Go.Proofs.YtchonoonclllbaaGreatDoor.Laws Go.Proofs.YtchonoonclllbaaGreatDoor.Bytes Go.Proofs.YtchonoonclllbaaGreatDoor.Sha Go.Proofs.YtchonoonclllbaaGreatDoor.Tr Go.Proofs.YtchonoonclllbaaGreatDoor.He Go.Proofs.YtchonoonclllbaaGreatDoor.Lg Go.Proofs.YtchonoonclllbaaGreatDoor.Sr Go.Proofs.YtchonoonclllbaaGreatDoor.Mg
set_option linter.unusedVariables false
def Oq (w : World) (lo hi : Nat) (v : Value) (t : List Hd) : Prop := Oh w lo hi v t ∧ hi ≤ w.heap.size
theorem Oq.later {w w' : World} {lo hi : Nat} {v : Value} {t : List Hd} (h : Oq w lo hi v t) (b : Below w.heap.size w w') : Oq w' lo hi v t := ⟨h.1.later b h.2, Nat.le_trans h.2 b.size⟩
theorem Oq.apart {w w' : World} {lo hi lo' hi' : Nat} {v : Value} {t : List Hd} (h : Oq w lo hi v t) (a : Apart lo' hi' w w') (hd : hi ≤ lo' ∨ hi' ≤ lo) : Oq w' lo hi v t := ⟨On.apart h.1 a (by omega) h.2, Nat.le_trans h.2 a.size⟩
def Omx (w : World) (lo hi : Nat) (v : Value) (q : List Ms) : Prop := Om w lo hi v q ∧ hi ≤ w.heap.size
theorem Omx.later {w w' : World} {lo hi : Nat} {v : Value} {q : List Ms} (h : Omx w lo hi v q) (b : Below w.heap.size w w') : Omx w' lo hi v q := ⟨h.1.later b h.2, Nat.le_trans h.2 b.size⟩
theorem Omx.apart {w w' : World} {lo hi lo' hi' : Nat} {v : Value} {q : List Ms} (h : Omx w lo hi v q) (a : Apart lo' hi' w w') (hd : hi ≤ lo' ∨ hi' ≤ lo) : Omx w' lo hi v q := ⟨Om.apart h.1 a hd h.2, Nat.le_trans h.2 a.size⟩
theorem tot_mem14 : ∀ (l : List ByteArray) (s : ByteArray), s ∈ l → s.size ≤ Puts.tot l := by
 intro l
 induction l with
 | nil => intro s h; cases h
 | cons a r ih =>
  intro s h
  simp only [Puts.tot]
  rcases List.mem_cons.1 h with rfl | h
  ·
   omega
  ·
   have := ih s h; omega
end Go.Proofs.YtchonoonclllbaaGreatDoor.Mi
namespace Go.Proofs.YtchonoonclllbaaGreatDoor.Mi
open Go.RowKit Go.Proofs.YtchonoonclllbaaGreatDoor.Mem Go.Proofs.YtchonoonclllbaaGreatDoor.Laws Go.Proofs.YtchonoonclllbaaGreatDoor.Bytes Go.Proofs.YtchonoonclllbaaGreatDoor.Sha Go.Proofs.YtchonoonclllbaaGreatDoor.Tr Go.Proofs.YtchonoonclllbaaGreatDoor.He Go.Proofs.YtchonoonclllbaaGreatDoor.Lg Go.Proofs.YtchonoonclllbaaGreatDoor.Sr Go.Proofs.YtchonoonclllbaaGreatDoor.Mg
set_option linter.unusedVariables false
set_option linter.unusedSimpArgs false
set_option maxRecDepth 1000000 in
set_option maxHeartbeats 16000000 in
theorem to_mirror (w : World) (v vb : Value) (id : Int) (l : List ByteArray) (h : Hd) (b : List Int) (s : Int) (g : Hd) (hs : Sl w v (ss l)) (hb : Sl w vb (bs b)) (hl : l.length ≤ 1000000000) (hbl : b.length ≤ 1000000000) :
  Calls Tryz.prog 33 #[.agg #[.int .i64 id, v, .int .i64 h.n, .string h.r, vb, .int .i64 s, .int .i64 g.n, .string g.r]] w fun e w' => ∃ v' vb', e = .returned (.agg #[.int .i64 id, v', .int .i64 h.n, .string h.r, vb', .int .i64 s, .int .i64 g.n, .string g.r]) ∧ Own w' w.heap.size w'.heap.size 9 v' (ss l) ∧ Own w' w.heap.size w'.heap.size 5 vb' (bs b) ∧ Below w.heap.size w w' := by
 have HS : Hid (Sl w v (ss l)) := hs
 have HSB : Hid (Sl w vb (bs b)) := hb
 obtain ⟨ao0, cap0, rfl, hc0⟩ := hs.form
 obtain ⟨ao1, cap1, rfl, hc1⟩ := hb.form
 simp only [ss_len, bs_len] at *
 clear hs hb
 have B0 : Hid (Below w.heap.size w w) := Below.refl _ _
 obtain ⟨W1, HW1, b1, y1, hS1, r_a1, r_res1, r_out1⟩ := Ke.l3 w #[.int .i64 id, .slice ao0 l.length cap0, .int .i64 h.n, .string h.r, .slice ao1 b.length cap1, .int .i64 s, .int .i64 g.n, .string g.r] 63 #[.int .i64 0, .slice none 0 0, .int .i64 0, .string ⟨#[]⟩, .slice none 0 0, .int .i64 0, .int .i64 0, .string ⟨#[]⟩] 32 #[.int .i64 0, .slice none 0 0, .int .i64 0, .string ⟨#[]⟩, .slice none 0 0, .int .i64 0, .int .i64 0, .string ⟨#[]⟩] 32
 have z1 := b1.size
 have B1 := Ke.b B0 b1
 have c_a1 := Ke.c r_a1
 have c_res1 := Ke.c r_res1
 have c_out1 := Ke.c r_out1
 have q1 : ∀ W v1 v2, Sl W v1 (ss l) → Sl W v2 (bs b) → _ := fun W v1 v2 h1 h2 => to_store W v1 v2 l h b s h1 h2 (by omega) (by omega)
 have q2 : ∀ W, _ := fun W => to_head W g
 go_enter Tryz.func33, Tryz.ntmps33
 go_wp2_with ((try rw [HW1.out]); refine wpl_oneG rfl 3 _ _ rfl (w.heap.size + 1 + 1) 0 (.int .i64 id) rfl rfl [.int .i64 0, .slice none 0 0, .int .i64 0, .string ⟨#[]⟩, .slice none 0 0, .int .i64 0, .int .i64 0, .string ⟨#[]⟩] 32 r_out1.out (Nat.le_of_ble_eq_true rfl) (by kernel_rfl) rfl [.int .i64 id, .slice none 0 0, .int .i64 0, .string ⟨#[]⟩, .slice none 0 0, .int .i64 0, .int .i64 0, .string ⟨#[]⟩] rfl ?_)
 intro W2 r_out2 g2
 have r_out2 := Ke.h r_out2
 have z2 := g2.size
 have B2 : Hid (Below w.heap.size w W2) := belowGro B1.out g2 B1.out.size (fun k9 h9 => by injection h9 with h9; have := B1.out.size; omega)
 have r_a2 := Ke.s r_a1 g2
 have r_res2 := Ke.s r_res1 g2
 have c_a2 := Ke.c r_a2
 have c_res2 := Ke.c r_res2
 have c_out2 := Ke.c r_out2
 clear r_a1 c_a1 r_res1 c_res1
 clear r_out1 c_out1
 clear g2
 go_wp2_with fail
 refine (q1 W2 _ _ (HS.out.later B2.out) (HSB.out.later B2.out)).mono ?_
 rintro e W3 ⟨v_s, v_p, rfl, o_s3, o_p3, b3⟩
 obtain ⟨lo_s, hi_s, lo_p, hi_p, d1_s, d2_s, d3_s, d4_s, d5_s, d6_s, d7_s, oo_s, oo_p⟩ := Sr.pairN o_s3 o_p3 b3.size
 clear o_s3 o_p3
 obtain ⟨ao_s, L_s, cap_s, rfl, _, _⟩ := oo_s.form
 obtain ⟨ao_p, L_p, cap_p, rfl, _, _⟩ := oo_p.form
 have o_s3 : Hid (Own W3 lo_s hi_s 9 (.slice ao_s L_s cap_s) (ss l)) := oo_s
 have o_p3 : Hid (Own W3 lo_p hi_p 5 (.slice ao_p L_p cap_p) (bs b)) := oo_p
 clear oo_s oo_p
 have z3 := b3.size
 have B3 := Ke.b B2 b3
 have r_a3 := Ke.r r_a2 b3
 have r_res3 := Ke.r r_res2 b3
 have r_out3 := Ke.r r_out2 b3
 have c_a3 := Ke.c r_a3
 have c_res3 := Ke.c r_res3
 have c_out3 := Ke.c r_out3
 clear r_a2 c_a2 r_res2 c_res2 r_out2 c_out2
 go_wp2_with (refine wpl_partG rfl 30 _ _ rfl (w.heap.size + 1 + 1) 1 (sc (.slice ao_s L_s cap_s) h (.slice ao_p L_p cap_p) s) rfl rfl [.int .i64 id, .slice none 0 0, .int .i64 0, .string ⟨#[]⟩, .slice none 0 0, .int .i64 0, .int .i64 0, .string ⟨#[]⟩] 32 r_out3.out (Nat.le_of_ble_eq_true rfl) (sizeS _ _ _ _) (oneS _ _ rfl rfl) [.int .i64 id, .slice ao_s L_s cap_s, .int .i64 h.n, .string h.r, .slice ao_p L_p cap_p, .int .i64 s, .int .i64 0, .string ⟨#[]⟩] rfl ?_)
 intro W4 r_out4 g4
 have r_out4 := Ke.h r_out4
 have z4 := g4.size
 have B4 : Hid (Below w.heap.size w W4) := belowGro B3.out g4 B3.out.size (fun k9 h9 => by injection h9 with h9; have := B3.out.size; omega)
 have r_a4 := Ke.s r_a3 g4
 have r_res4 := Ke.s r_res3 g4
 have o_s4 := Ke.t o_s3 r_out3 g4
 have o_p4 := Ke.t o_p3 r_out3 g4
 have c_a4 := Ke.c r_a4
 have c_res4 := Ke.c r_res4
 have c_out4 := Ke.c r_out4
 clear r_a3 c_a3 r_res3 c_res3 o_s3 o_p3
 clear r_out3 c_out3
 clear g4
 go_wp2_with fail
 refine (q2 W4).mono ?_
 rintro e W5 ⟨rfl, b5⟩
 have z5 := b5.size
 have B5 := Ke.b B4 b5
 have r_a5 := Ke.r r_a4 b5
 have r_res5 := Ke.r r_res4 b5
 have r_out5 := Ke.r r_out4 b5
 have o_s5 := Ke.o o_s4 b5
 have o_p5 := Ke.o o_p4 b5
 have c_a5 := Ke.c r_a5
 have c_res5 := Ke.c r_res5
 have c_out5 := Ke.c r_out5
 clear r_a4 c_a4 r_res4 c_res4 r_out4 c_out4 o_s4 o_p4
 go_wp2_with (refine wpl_partG rfl 26 _ _ rfl (w.heap.size + 1 + 1) 6 (hc g) rfl rfl [.int .i64 id, .slice ao_s L_s cap_s, .int .i64 h.n, .string h.r, .slice ao_p L_p cap_p, .int .i64 s, .int .i64 0, .string ⟨#[]⟩] 32 r_out5.out (Nat.le_of_ble_eq_true rfl) (sizeH _) (oneH _) [.int .i64 id, .slice ao_s L_s cap_s, .int .i64 h.n, .string h.r, .slice ao_p L_p cap_p, .int .i64 s, .int .i64 g.n, .string g.r] rfl ?_)
 intro W6 r_out6 g6
 have r_out6 := Ke.h r_out6
 have z6 := g6.size
 have B6 : Hid (Below w.heap.size w W6) := belowGro B5.out g6 B5.out.size (fun k9 h9 => by injection h9 with h9; have := B5.out.size; omega)
 have r_a6 := Ke.s r_a5 g6
 have r_res6 := Ke.s r_res5 g6
 have o_s6 := Ke.t o_s5 r_out5 g6
 have o_p6 := Ke.t o_p5 r_out5 g6
 have c_a6 := Ke.c r_a6
 have c_res6 := Ke.c r_res6
 have c_out6 := Ke.c r_out6
 clear r_a5 c_a5 r_res5 c_res5 o_s5 o_p5
 clear r_out5 c_out5
 clear g6
 go_wp2_with (first | (refine wpList_load_row rfl 32 _ rfl (w.heap.size + 1 + 1) rfl 32 (mq id (.slice ao_s L_s cap_s) h (.slice ao_p L_p cap_p) s g) (0, 0) _ r_out6.out Tryz.underlying32 rfl (sizeQ _ _ _ _ _ _) ?_) | (refine wpList_store_row rfl 32 _ _ rfl (w.heap.size + 1) (mq id (.slice ao_s L_s cap_s) h (.slice ao_p L_p cap_p) s g) rfl rfl 32 _ r_res6.out (sizeQ _ _ _ _ _ _) rfl (oneQ _ _ _ _ rfl rfl) ?_))
 refine bodyPost_ret (v := .agg (mq id (.slice ao_s L_s cap_s) h (.slice ao_p L_p cap_p) s g)) (results_cell_row rfl _ _ (w.heap.size + 1) 32 _ (0, 0) _ rfl (setRow_heap _ _ _ _ _ (0, 0) r_res6.out) Tryz.underlying32 rfl (sizeQ _ _ _ _ _ _)) rfl ⟨_, _, rfl, (Own.setRow o_s6.out _ (by omega)).mono (by omega) (by rw [size_setRow]; omega), (Own.setRow o_p6.out _ (by omega)).mono (by omega) (by rw [size_setRow]; omega), below_setRow B6.out (by omega) _⟩
set_option maxRecDepth 1000000 in
set_option maxHeartbeats 16000000 in
theorem sz_mirror (w : World) (v vb : Value) (id : Int) (l : List ByteArray) (h : Hd) (b : List Int) (s : Int) (g : Hd) (hs : Sl w v (ss l)) (hb : Sl w vb (bs b)) (hz : ∀ s ∈ l, s.size ≤ 9223372036854775807) (hl : l.length ≤ 9223372036854775807) (hbl : b.length ≤ 9223372036854775807) (hr : h.r.size ≤ 9223372036854775807) (hrg : g.r.size ≤ 9223372036854775807) :
  Calls Tryz.prog 31 #[.agg #[.int .i64 id, v, .int .i64 h.n, .string h.r, vb, .int .i64 s, .int .i64 g.n, .string g.r], .int .i64 1048576] w fun e w' => (∃ r : Int, e = .returned (.int .i64 r) ∧ (r < 0 ∨ (l.length + Puts.tot l ≤ 1048576 ∧ h.r.size ≤ 1048576 ∧ b.length ≤ 1048576 ∧ g.r.size ≤ 1048576 ∧ 0 ≤ r ∧ r ≤ 1048576))) ∧ Below w.heap.size w w' := by
 have HS : Hid (Sl w v (ss l)) := hs
 have HSB : Hid (Sl w vb (bs b)) := hb
 obtain ⟨ao0, cap0, rfl, hc0⟩ := hs.form
 obtain ⟨ao1, cap1, rfl, hc1⟩ := hb.form
 simp only [ss_len, bs_len] at *
 clear hs hb
 have B0 : Hid (Below w.heap.size w w) := Below.refl _ _
 obtain ⟨W1, HW1, b1, y1, hS1, r_a1⟩ := Ke.l1 w #[.int .i64 id, .slice ao0 l.length cap0, .int .i64 h.n, .string h.r, .slice ao1 b.length cap1, .int .i64 s, .int .i64 g.n, .string g.r] 63
 have z1 := b1.size
 have B1 := Ke.b B0 b1
 have c_a1 := Ke.c r_a1
 have q1 := sz_store W1 _ _ l h b s (HS.out.later B1.out) (HSB.out.later B1.out) hz hl hbl hr
 clear hz
 go_enter Tryz.func31, Tryz.ntmps31
 go_wp2_with fail
 rw [HW1.out]
 refine q1.mono ?_
 rintro e W2 ⟨⟨r, rfl, hr0⟩, b2⟩
 clear q1
 have z2 := b2.size
 have B2 := Ke.b B1 b2
 have r_a2 := Ke.r r_a1 b2
 have c_a2 := Ke.c r_a2
 clear r_a1 c_a1
 by_cases h0 : r < 0
 ·
  go_wp2
  go_ret
  exact ⟨⟨-1, rfl, .inl (by omega)⟩, B2.out⟩
 ·
  rcases hr0 with hr0 | ⟨hr1, hr2, hr5, hr3, hr4⟩
  ·
   exact absurd hr0 h0
  have q2 : ∀ W, _ := fun W => sz_head W g r hrg hr3 hr4
  by_cases hb : r - (g.r.size : Int) < 0
  ·
   simp only [if_pos hb] at q2
   go_wp2_with fail
   refine (q2 W2).mono ?_
   rintro e W3 ⟨rfl, b3⟩
   have z3 := b3.size
   have B3 := Ke.b B2 b3
   have r_a3 := Ke.r r_a2 b3
   have c_a3 := Ke.c r_a3
   clear r_a2 c_a2
   go_wp2
   go_ret
   exact ⟨⟨-1, rfl, .inl (by omega)⟩, B3.out⟩
  ·
   simp only [if_neg hb] at q2
   have h5 : g.r.size ≤ 1048576 := by omega
   obtain ⟨m, hm⟩ : ∃ m, r - (g.r.size : Int) = m := ⟨_, rfl⟩
   have hm2 : 0 ≤ m ∧ m ≤ 1048576 := by omega
   rw [hm] at hb
   simp only [hm] at q2
   clear hm
   go_wp2_with fail
   refine (q2 W2).mono ?_
   rintro e W3 ⟨rfl, b3⟩
   have z3 := b3.size
   have B3 := Ke.b B2 b3
   have r_a3 := Ke.r r_a2 b3
   have c_a3 := Ke.c r_a3
   clear r_a2 c_a2
   go_wp2
   go_ret
   exact ⟨⟨m, rfl, .inr ⟨hr1, hr2, hr5, h5, hm2.1, hm2.2⟩⟩, B3.out⟩
set_option maxRecDepth 1000000 in
set_option maxHeartbeats 16000000 in
theorem eq_mirror (w : World) (v1 v2 b1 b2 : Value) (id : Int) (l : List ByteArray) (h : Hd) (b : List Int) (s : Int) (g : Hd) (s1 : Sl w v1 (ss l)) (s2 : Sl w v2 (ss l)) (t1 : Sl w b1 (bs b)) (t2 : Sl w b2 (bs b)) (hl : l.length ≤ 1000000000) (hbl : b.length ≤ 1000000000) :
  Calls Tryz.prog 35 #[.agg #[.int .i64 id, v1, .int .i64 h.n, .string h.r, b1, .int .i64 s, .int .i64 g.n, .string g.r], .agg #[.int .i64 id, v2, .int .i64 h.n, .string h.r, b2, .int .i64 s, .int .i64 g.n, .string g.r]] w fun e w' => e = .returned (.bool true) ∧ Below w.heap.size w w' := by
 have S1 : Hid (Sl w v1 (ss l)) := s1
 have S2 : Hid (Sl w v2 (ss l)) := s2
 have T1 : Hid (Sl w b1 (bs b)) := t1
 have T2 : Hid (Sl w b2 (bs b)) := t2
 obtain ⟨ao0, cap0, rfl, hc0⟩ := s1.form
 obtain ⟨ao1, cap1, rfl, hc1⟩ := t1.form
 obtain ⟨ao2, cap2, rfl, hc2⟩ := s2.form
 obtain ⟨ao3, cap3, rfl, hc3⟩ := t2.form
 simp only [ss_len, bs_len] at *
 have n1 : (id != id) = false := by simp
 have n2 : (id == id) = true := by simp
 clear s1 s2 t1 t2
 have B0 : Hid (Below w.heap.size w w) := Below.refl _ _
 obtain ⟨W1, HW1, b1, y1, hS1, r_a1, r_b1⟩ := Ke.l2 w #[.int .i64 id, .slice ao0 l.length cap0, .int .i64 h.n, .string h.r, .slice ao1 b.length cap1, .int .i64 s, .int .i64 g.n, .string g.r] 32 #[.int .i64 id, .slice ao2 l.length cap2, .int .i64 h.n, .string h.r, .slice ao3 b.length cap3, .int .i64 s, .int .i64 g.n, .string g.r] 32
 have z1 := b1.size
 have B1 := Ke.b B0 b1
 have c_a1 := Ke.c r_a1
 have c_b1 := Ke.c r_b1
 go_enter Tryz.func35, Tryz.ntmps35
 go_wp2_with fail
 rw [HW1.out]
 refine (eq_store W1 _ _ _ _ l h b s (S1.out.later B1.out) (S2.out.later B1.out) (T1.out.later B1.out) (T2.out.later B1.out) (by omega) (by omega)).mono ?_
 rintro e W2 ⟨rfl, b2⟩
 have z2 := b2.size
 have B2 := Ke.b B1 b2
 have r_a2 := Ke.r r_a1 b2
 have r_b2 := Ke.r r_b1 b2
 have c_a2 := Ke.c r_a2
 have c_b2 := Ke.c r_b2
 clear r_a1 c_a1 r_b1 c_b1
 go_wp2_with fail
 refine (eq_head W2 g).mono ?_
 rintro e W3 ⟨rfl, b3⟩
 have z3 := b3.size
 have B3 := Ke.b B2 b3
 have r_a3 := Ke.r r_a2 b3
 have r_b3 := Ke.r r_b2 b3
 have c_a3 := Ke.c r_a3
 have c_b3 := Ke.c r_b3
 clear r_a2 c_a2 r_b2 c_b2
 go_wp2
 go_ret
 exact ⟨rfl, B3.out⟩
end Go.Proofs.YtchonoonclllbaaGreatDoor.Mi
