/- Texts in one: SrJ, Mi5, LhC. -/
import Derived.Test.YtchonoonclllbabGreatDoorPa6
import Derived.Test.YtchonoonclllbabGreatDoorPa14
import Derived.Test.YtchonoonclllbabGreatDoorPa17
import Derived.Test.YtchonoonclllbabGreatDoorPa31
import Derived.Test.YtchonoonclllbabGreatDoorPa20
import Derived.Deep.DeepCutAuto
namespace Go.Proofs.YtchonoonclllbabGreatDoor.Sr
open Go.RowKit Go.Proofs.YtchonoonclllbabGreatDoor.Mem Go.Proofs.YtchonoonclllbabGreatDoor.Laws Go.Proofs.YtchonoonclllbabGreatDoor.Bytes Go.Proofs.YtchonoonclllbabGreatDoor.Sha Go.Proofs.YtchonoonclllbabGreatDoor.Tr Go.Proofs.YtchonoonclllbabGreatDoor.He Go.Proofs.YtchonoonclllbabGreatDoor.Lg
set_option linter.unusedVariables false
set_option linter.unusedSimpArgs false
set_option maxRecDepth 1000000 in
set_option maxHeartbeats 16000000 in
theorem fall_spec (w : World) (v vb : Value) (l : List ByteArray) (h : Hd) (b : List Int) (s keep : Int) (hs : Sl w v (ss l)) (hb : Sl w vb (bs b)) (hbl : b.length ≤ 1000000000) (hs1 : -9223372036854775808 ≤ s) (hs2 : s ≤ 9223372036854775807) (hk1 : -9223372036854775808 ≤ keep) (hk2 : keep ≤ 9223372036854775807) :
  Calls Tryz.prog 96 #[.agg #[v, .int .i64 h.n, .string h.r, vb, .int .i64 s], .int .i64 keep] w fun e w' => ∃ v', e = .returned v' ∧ Own w' w.heap.size w'.heap.size 5 v' (bs (b.take (fallN ⟨l, h, b, s⟩ keep))) ∧ Below w.heap.size w w' := by
 have HSB : Hid (Sl w vb (bs b)) := hb
 obtain ⟨ao0, cap0, rfl, hc0⟩ := hs.form
 obtain ⟨ao1, cap1, rfl, hc1⟩ := hb.form
 simp only [ss_len, bs_len] at *
 clear hs hb
 have B0 : Hid (Below w.heap.size w w) := Below.refl _ _
 obtain ⟨i5, hi5, hz5a, hz5b, hz5c⟩ := info_parts info5
 obtain ⟨W1, HW1, b1, y1, hS1, r_a1⟩ := Ke.l1 w #[.slice ao0 l.length cap0, .int .i64 h.n, .string h.r, .slice ao1 b.length cap1, .int .i64 s] 42
 have z1 := b1.size
 have B1 := Ke.b B0 b1
 have c_a1 := Ke.c r_a1
 obtain ⟨K, hK⟩ : ∃ K, fallN ⟨l, h, b, s⟩ keep = K := ⟨_, rfl⟩
 rw [hK]
 unfold fallN at hK
 simp only at hK
 by_cases hs0 : s < 0
 ·
  by_cases hk0 : 0 < keep
  ·
   by_cases hk1 : (b.length : Int) - 0 < keep
   ·
    have hKK : K = b.length := by omega
    have HKK : Hid (K = b.length) := hKK
    have hKb : b.length ≤ b.length := by omega
    clear hKK hK
    go_enter Tryz.func96, Tryz.ntmps96
    go_upto_region 10 with fail
    rw [HW1.out]
    have a_a1 := Ke.a r_a1
    obtain ⟨W2, HW2, b2, o_e2⟩ : ∃ X, Hid ((W1.alloc (.cells #[] 5)) = X) ∧ Below W1.heap.size W1 X ∧ Hid (Own X W1.heap.size X.heap.size 5 (.slice (some ⟨W1.heap.size, 0, none⟩) 0 0) (bs [])) := ⟨_, rfl, (Below.refl _ _).alloc (Nat.le_refl _) _, Puts.Own.empty W1 W1.heap.size (Nat.le_refl _)⟩
    have z2 := b2.size
    have B2 := Ke.b B1 b2
    have r_a2 := Ke.r r_a1 b2
    have c_a2 := Ke.c r_a2
    clear r_a1 c_a1
    have c6_3 : (bs []).length + (bs b).length ≤ maxLen := by rw [bs_len, bs_len]; unfold maxLen; (try simp only [List.length_nil]); omega
    have c7_3 : ((bs []).length + (bs b).length) * 1 ≤ 140737488355328 := by rw [bs_len, bs_len]; (try simp only [List.length_nil]); omega
    have sE3 : Hid (Sl W2 _ (bs b)) := (HSB.out.later B2.out)
    go_wp2_with (at_builtin; (try rw [HW2.out]); go_must (refine wpl_app _ rfl (.tmp 35) (.tmp 39) 27 rfl 5 i5 (.int .u8 0) 1 Tryz.underlying27 hi5 hz5a hz5b hz5c rfl (W1.heap.size) _ (bs []) rfl (Own.mono o_e2.out (Nat.le_refl _) (by omega)) _ rfl (bs b) sE3.out (bs_one b) c6_3 c7_3 (by omega) ?_))
    intro v_p W3 o_p3 _ g3
    clear a_a1
    have o_p3 : Own W3 (W1.heap.size) W3.heap.size 5 v_p (bs b) := o_p3
    have o_p3h : Hid (Own W3 (W1.heap.size) W3.heap.size 5 v_p (bs b)) := o_p3
    clear o_p3
    have o_p3 := o_p3h
    clear o_p3h
    obtain ⟨ao_p, L_p, cap_p, rfl, _, _⟩ := Mem.Own.form o_p3.out
    have z3 := g3.size
    have B3 : Hid (Below w.heap.size w W3) := belowGro B2.out g3 B2.out.size (Own.low o_e2.out (by have := B2.out.size; omega))
    have r_a3 := Ke.n r_a2 o_e2 g3
    have c_a3 := Ke.c r_a3
    clear r_a2 c_a2 o_e2
    clear g3 sE3 c6_3 c7_3
    go_wp2
    go_ret
    refine ⟨_, rfl, ?_, B3.out⟩
    rw [HKK.out]
    rw [List.take_of_length_le (Nat.le_refl _)]
    exact Own.mono o_p3.out (by omega) (Nat.le_refl _)
   ·
    obtain ⟨k, rfl⟩ : ∃ k : Nat, keep = (k : Int) := ⟨keep.toNat, by omega⟩
    have hKK : K = k := by omega
    have HKK : Hid (K = k) := hKK
    have hKb : k ≤ b.length := by omega
    clear hKK hK
    go_enter Tryz.func96, Tryz.ntmps96
    go_upto_region 10 with fail
    rw [HW1.out]
    have a_a1 := Ke.a r_a1
    obtain ⟨W2, HW2, b2, o_e2⟩ : ∃ X, Hid ((W1.alloc (.cells #[] 5)) = X) ∧ Below W1.heap.size W1 X ∧ Hid (Own X W1.heap.size X.heap.size 5 (.slice (some ⟨W1.heap.size, 0, none⟩) 0 0) (bs [])) := ⟨_, rfl, (Below.refl _ _).alloc (Nat.le_refl _) _, Puts.Own.empty W1 W1.heap.size (Nat.le_refl _)⟩
    have z2 := b2.size
    have B2 := Ke.b B1 b2
    have r_a2 := Ke.r r_a1 b2
    have c_a2 := Ke.c r_a2
    clear r_a1 c_a1
    have c6_3 : (bs []).length + (bs (b.take (k))).length ≤ maxLen := by rw [bs_len, bs_len]; unfold maxLen; (try simp only [List.length_nil]); rw [List.length_take]; omega
    have c7_3 : ((bs []).length + (bs (b.take (k))).length) * 1 ≤ 140737488355328 := by rw [bs_len, bs_len]; (try simp only [List.length_nil]); rw [List.length_take]; omega
    have sE3 : Hid (Sl W2 _ (bs (b.take (k)))) := (by have h9 := Sl.front ((HSB.out.later B2.out)) (k) (by rw [bs_len]; omega); have e9 : bs (b.take (k)) = (bs b).take (k) := by { unfold bs; rw [List.map_take] }; rw [e9]; exact h9)
    go_wp2_with (at_builtin; (try rw [HW2.out]); go_must (refine wpl_app _ rfl (.tmp 35) (.tmp 39) 27 rfl 5 i5 (.int .u8 0) 1 Tryz.underlying27 hi5 hz5a hz5b hz5c rfl (W1.heap.size) _ (bs []) rfl (Own.mono o_e2.out (Nat.le_refl _) (by omega)) _ rfl (bs (b.take (k))) sE3.out (bs_one (b.take (k))) c6_3 c7_3 (by omega) ?_))
    intro v_p W3 o_p3 _ g3
    clear a_a1
    have o_p3 : Own W3 (W1.heap.size) W3.heap.size 5 v_p (bs (b.take (k))) := o_p3
    have o_p3h : Hid (Own W3 (W1.heap.size) W3.heap.size 5 v_p (bs (b.take (k)))) := o_p3
    clear o_p3
    have o_p3 := o_p3h
    clear o_p3h
    obtain ⟨ao_p, L_p, cap_p, rfl, _, _⟩ := Mem.Own.form o_p3.out
    have z3 := g3.size
    have B3 : Hid (Below w.heap.size w W3) := belowGro B2.out g3 B2.out.size (Own.low o_e2.out (by have := B2.out.size; omega))
    have r_a3 := Ke.n r_a2 o_e2 g3
    have c_a3 := Ke.c r_a3
    clear r_a2 c_a2 o_e2
    clear g3 sE3 c6_3 c7_3
    go_wp2
    go_ret
    refine ⟨_, rfl, ?_, B3.out⟩
    rw [HKK.out]
    exact Own.mono o_p3.out (by omega) (Nat.le_refl _)
  ·
   have hKK : K = 0 := by omega
   have HKK : Hid (K = 0) := hKK
   have hKb : 0 ≤ b.length := by omega
   clear hKK hK
   go_enter Tryz.func96, Tryz.ntmps96
   go_upto_region 10 with fail
   rw [HW1.out]
   have a_a1 := Ke.a r_a1
   obtain ⟨W2, HW2, b2, o_e2⟩ : ∃ X, Hid ((W1.alloc (.cells #[] 5)) = X) ∧ Below W1.heap.size W1 X ∧ Hid (Own X W1.heap.size X.heap.size 5 (.slice (some ⟨W1.heap.size, 0, none⟩) 0 0) (bs [])) := ⟨_, rfl, (Below.refl _ _).alloc (Nat.le_refl _) _, Puts.Own.empty W1 W1.heap.size (Nat.le_refl _)⟩
   have z2 := b2.size
   have B2 := Ke.b B1 b2
   have r_a2 := Ke.r r_a1 b2
   have c_a2 := Ke.c r_a2
   clear r_a1 c_a1
   have c6_3 : (bs []).length + (bs (b.take (0))).length ≤ maxLen := by rw [bs_len, bs_len]; unfold maxLen; (try simp only [List.length_nil]); rw [List.length_take]; omega
   have c7_3 : ((bs []).length + (bs (b.take (0))).length) * 1 ≤ 140737488355328 := by rw [bs_len, bs_len]; (try simp only [List.length_nil]); rw [List.length_take]; omega
   have sE3 : Hid (Sl W2 _ (bs (b.take (0)))) := (by have h9 := Sl.front ((HSB.out.later B2.out)) (0) (by rw [bs_len]; omega); have e9 : bs (b.take (0)) = (bs b).take (0) := by { unfold bs; rw [List.map_take] }; rw [e9]; exact h9)
   go_wp2_with (at_builtin; (try rw [HW2.out]); go_must (refine wpl_app _ rfl (.tmp 35) (.tmp 39) 27 rfl 5 i5 (.int .u8 0) 1 Tryz.underlying27 hi5 hz5a hz5b hz5c rfl (W1.heap.size) _ (bs []) rfl (Own.mono o_e2.out (Nat.le_refl _) (by omega)) _ rfl (bs (b.take (0))) sE3.out (bs_one (b.take (0))) c6_3 c7_3 (by omega) ?_))
   intro v_p W3 o_p3 _ g3
   clear a_a1
   have o_p3 : Own W3 (W1.heap.size) W3.heap.size 5 v_p (bs (b.take (0))) := o_p3
   have o_p3h : Hid (Own W3 (W1.heap.size) W3.heap.size 5 v_p (bs (b.take (0)))) := o_p3
   clear o_p3
   have o_p3 := o_p3h
   clear o_p3h
   obtain ⟨ao_p, L_p, cap_p, rfl, _, _⟩ := Mem.Own.form o_p3.out
   have z3 := g3.size
   have B3 : Hid (Below w.heap.size w W3) := belowGro B2.out g3 B2.out.size (Own.low o_e2.out (by have := B2.out.size; omega))
   have r_a3 := Ke.n r_a2 o_e2 g3
   have c_a3 := Ke.c r_a3
   clear r_a2 c_a2 o_e2
   clear g3 sE3 c6_3 c7_3
   go_wp2
   go_ret
   refine ⟨_, rfl, ?_, B3.out⟩
   rw [HKK.out]
   exact Own.mono o_p3.out (by omega) (Nat.le_refl _)
 ·
  by_cases hs1 : (b.length : Int) < s
  ·
   by_cases hk0 : 0 < keep
   ·
    have g1 : (b.length : Int) - (b.length : Int) < keep := by omega
    have hKK : K = b.length := by omega
    have HKK : Hid (K = b.length) := hKK
    have hKb : b.length ≤ b.length := by omega
    clear hKK hK
    go_enter Tryz.func96, Tryz.ntmps96
    go_upto_region 10 with fail
    rw [HW1.out]
    have a_a1 := Ke.a r_a1
    obtain ⟨W2, HW2, b2, o_e2⟩ : ∃ X, Hid ((W1.alloc (.cells #[] 5)) = X) ∧ Below W1.heap.size W1 X ∧ Hid (Own X W1.heap.size X.heap.size 5 (.slice (some ⟨W1.heap.size, 0, none⟩) 0 0) (bs [])) := ⟨_, rfl, (Below.refl _ _).alloc (Nat.le_refl _) _, Puts.Own.empty W1 W1.heap.size (Nat.le_refl _)⟩
    have z2 := b2.size
    have B2 := Ke.b B1 b2
    have r_a2 := Ke.r r_a1 b2
    have c_a2 := Ke.c r_a2
    clear r_a1 c_a1
    have c6_3 : (bs []).length + (bs b).length ≤ maxLen := by rw [bs_len, bs_len]; unfold maxLen; (try simp only [List.length_nil]); omega
    have c7_3 : ((bs []).length + (bs b).length) * 1 ≤ 140737488355328 := by rw [bs_len, bs_len]; (try simp only [List.length_nil]); omega
    have sE3 : Hid (Sl W2 _ (bs b)) := (HSB.out.later B2.out)
    go_wp2_with (at_builtin; (try rw [HW2.out]); go_must (refine wpl_app _ rfl (.tmp 35) (.tmp 39) 27 rfl 5 i5 (.int .u8 0) 1 Tryz.underlying27 hi5 hz5a hz5b hz5c rfl (W1.heap.size) _ (bs []) rfl (Own.mono o_e2.out (Nat.le_refl _) (by omega)) _ rfl (bs b) sE3.out (bs_one b) c6_3 c7_3 (by omega) ?_))
    intro v_p W3 o_p3 _ g3
    clear a_a1
    have o_p3 : Own W3 (W1.heap.size) W3.heap.size 5 v_p (bs b) := o_p3
    have o_p3h : Hid (Own W3 (W1.heap.size) W3.heap.size 5 v_p (bs b)) := o_p3
    clear o_p3
    have o_p3 := o_p3h
    clear o_p3h
    obtain ⟨ao_p, L_p, cap_p, rfl, _, _⟩ := Mem.Own.form o_p3.out
    have z3 := g3.size
    have B3 : Hid (Below w.heap.size w W3) := belowGro B2.out g3 B2.out.size (Own.low o_e2.out (by have := B2.out.size; omega))
    have r_a3 := Ke.n r_a2 o_e2 g3
    have c_a3 := Ke.c r_a3
    clear r_a2 c_a2 o_e2
    clear g3 sE3 c6_3 c7_3
    go_wp2
    go_ret
    refine ⟨_, rfl, ?_, B3.out⟩
    rw [HKK.out]
    rw [List.take_of_length_le (Nat.le_refl _)]
    exact Own.mono o_p3.out (by omega) (Nat.le_refl _)
   ·
    have hKK : K = b.length := by omega
    have HKK : Hid (K = b.length) := hKK
    have hKb : b.length ≤ b.length := by omega
    clear hKK hK
    go_enter Tryz.func96, Tryz.ntmps96
    go_upto_region 10 with fail
    rw [HW1.out]
    have a_a1 := Ke.a r_a1
    obtain ⟨W2, HW2, b2, o_e2⟩ : ∃ X, Hid ((W1.alloc (.cells #[] 5)) = X) ∧ Below W1.heap.size W1 X ∧ Hid (Own X W1.heap.size X.heap.size 5 (.slice (some ⟨W1.heap.size, 0, none⟩) 0 0) (bs [])) := ⟨_, rfl, (Below.refl _ _).alloc (Nat.le_refl _) _, Puts.Own.empty W1 W1.heap.size (Nat.le_refl _)⟩
    have z2 := b2.size
    have B2 := Ke.b B1 b2
    have r_a2 := Ke.r r_a1 b2
    have c_a2 := Ke.c r_a2
    clear r_a1 c_a1
    have c6_3 : (bs []).length + (bs b).length ≤ maxLen := by rw [bs_len, bs_len]; unfold maxLen; (try simp only [List.length_nil]); omega
    have c7_3 : ((bs []).length + (bs b).length) * 1 ≤ 140737488355328 := by rw [bs_len, bs_len]; (try simp only [List.length_nil]); omega
    have sE3 : Hid (Sl W2 _ (bs b)) := (HSB.out.later B2.out)
    go_wp2_with (at_builtin; (try rw [HW2.out]); go_must (refine wpl_app _ rfl (.tmp 35) (.tmp 39) 27 rfl 5 i5 (.int .u8 0) 1 Tryz.underlying27 hi5 hz5a hz5b hz5c rfl (W1.heap.size) _ (bs []) rfl (Own.mono o_e2.out (Nat.le_refl _) (by omega)) _ rfl (bs b) sE3.out (bs_one b) c6_3 c7_3 (by omega) ?_))
    intro v_p W3 o_p3 _ g3
    clear a_a1
    have o_p3 : Own W3 (W1.heap.size) W3.heap.size 5 v_p (bs b) := o_p3
    have o_p3h : Hid (Own W3 (W1.heap.size) W3.heap.size 5 v_p (bs b)) := o_p3
    clear o_p3
    have o_p3 := o_p3h
    clear o_p3h
    obtain ⟨ao_p, L_p, cap_p, rfl, _, _⟩ := Mem.Own.form o_p3.out
    have z3 := g3.size
    have B3 : Hid (Below w.heap.size w W3) := belowGro B2.out g3 B2.out.size (Own.low o_e2.out (by have := B2.out.size; omega))
    have r_a3 := Ke.n r_a2 o_e2 g3
    have c_a3 := Ke.c r_a3
    clear r_a2 c_a2 o_e2
    clear g3 sE3 c6_3 c7_3
    go_wp2
    go_ret
    refine ⟨_, rfl, ?_, B3.out⟩
    rw [HKK.out]
    rw [List.take_of_length_le (Nat.le_refl _)]
    exact Own.mono o_p3.out (by omega) (Nat.le_refl _)
  ·
   obtain ⟨m, rfl⟩ : ∃ m : Nat, s = (m : Int) := ⟨s.toNat, by omega⟩
   have hmb : m ≤ b.length := by omega
   by_cases hk0 : 0 < keep
   ·
    by_cases hk1 : (b.length : Int) - (m : Int) < keep
    ·
     have hsum : (m : Int) + ((b.length : Int) - (m : Int)) = (b.length : Int) := by omega
     have hKK : K = b.length := by omega
     have HKK : Hid (K = b.length) := hKK
     have hKb : b.length ≤ b.length := by omega
     clear hKK hK
     go_enter Tryz.func96, Tryz.ntmps96
     go_upto_region 10 with fail
     rw [HW1.out]
     have a_a1 := Ke.a r_a1
     obtain ⟨W2, HW2, b2, o_e2⟩ : ∃ X, Hid ((W1.alloc (.cells #[] 5)) = X) ∧ Below W1.heap.size W1 X ∧ Hid (Own X W1.heap.size X.heap.size 5 (.slice (some ⟨W1.heap.size, 0, none⟩) 0 0) (bs [])) := ⟨_, rfl, (Below.refl _ _).alloc (Nat.le_refl _) _, Puts.Own.empty W1 W1.heap.size (Nat.le_refl _)⟩
     have z2 := b2.size
     have B2 := Ke.b B1 b2
     have r_a2 := Ke.r r_a1 b2
     have c_a2 := Ke.c r_a2
     clear r_a1 c_a1
     have c6_3 : (bs []).length + (bs b).length ≤ maxLen := by rw [bs_len, bs_len]; unfold maxLen; (try simp only [List.length_nil]); omega
     have c7_3 : ((bs []).length + (bs b).length) * 1 ≤ 140737488355328 := by rw [bs_len, bs_len]; (try simp only [List.length_nil]); omega
     have sE3 : Hid (Sl W2 _ (bs b)) := (HSB.out.later B2.out)
     go_wp2_with (at_builtin; (try rw [HW2.out]); go_must (refine wpl_app _ rfl (.tmp 35) (.tmp 39) 27 rfl 5 i5 (.int .u8 0) 1 Tryz.underlying27 hi5 hz5a hz5b hz5c rfl (W1.heap.size) _ (bs []) rfl (Own.mono o_e2.out (Nat.le_refl _) (by omega)) _ rfl (bs b) sE3.out (bs_one b) c6_3 c7_3 (by omega) ?_))
     intro v_p W3 o_p3 _ g3
     clear a_a1
     have o_p3 : Own W3 (W1.heap.size) W3.heap.size 5 v_p (bs b) := o_p3
     have o_p3h : Hid (Own W3 (W1.heap.size) W3.heap.size 5 v_p (bs b)) := o_p3
     clear o_p3
     have o_p3 := o_p3h
     clear o_p3h
     obtain ⟨ao_p, L_p, cap_p, rfl, _, _⟩ := Mem.Own.form o_p3.out
     have z3 := g3.size
     have B3 : Hid (Below w.heap.size w W3) := belowGro B2.out g3 B2.out.size (Own.low o_e2.out (by have := B2.out.size; omega))
     have r_a3 := Ke.n r_a2 o_e2 g3
     have c_a3 := Ke.c r_a3
     clear r_a2 c_a2 o_e2
     clear g3 sE3 c6_3 c7_3
     go_wp2
     go_ret
     refine ⟨_, rfl, ?_, B3.out⟩
     rw [HKK.out]
     rw [List.take_of_length_le (Nat.le_refl _)]
     exact Own.mono o_p3.out (by omega) (Nat.le_refl _)
    ·
     obtain ⟨k, rfl⟩ : ∃ k : Nat, keep = (k : Int) := ⟨keep.toNat, by omega⟩
     have hKK : K = m + k := by omega
     have HKK : Hid (K = m + k) := hKK
     have hKb : m + k ≤ b.length := by omega
     clear hKK hK
     go_enter Tryz.func96, Tryz.ntmps96
     go_upto_region 10 with fail
     rw [HW1.out]
     have a_a1 := Ke.a r_a1
     obtain ⟨W2, HW2, b2, o_e2⟩ : ∃ X, Hid ((W1.alloc (.cells #[] 5)) = X) ∧ Below W1.heap.size W1 X ∧ Hid (Own X W1.heap.size X.heap.size 5 (.slice (some ⟨W1.heap.size, 0, none⟩) 0 0) (bs [])) := ⟨_, rfl, (Below.refl _ _).alloc (Nat.le_refl _) _, Puts.Own.empty W1 W1.heap.size (Nat.le_refl _)⟩
     have z2 := b2.size
     have B2 := Ke.b B1 b2
     have r_a2 := Ke.r r_a1 b2
     have c_a2 := Ke.c r_a2
     clear r_a1 c_a1
     have c6_3 : (bs []).length + (bs (b.take (m + k))).length ≤ maxLen := by rw [bs_len, bs_len]; unfold maxLen; (try simp only [List.length_nil]); rw [List.length_take]; omega
     have c7_3 : ((bs []).length + (bs (b.take (m + k))).length) * 1 ≤ 140737488355328 := by rw [bs_len, bs_len]; (try simp only [List.length_nil]); rw [List.length_take]; omega
     have sE3 : Hid (Sl W2 _ (bs (b.take (m + k)))) := (by have h9 := Sl.front ((HSB.out.later B2.out)) (m + k) (by rw [bs_len]; omega); have e9 : bs (b.take (m + k)) = (bs b).take (m + k) := by { unfold bs; rw [List.map_take] }; rw [e9]; exact h9)
     go_wp2_with (at_builtin; (try rw [HW2.out]); go_must (refine wpl_app _ rfl (.tmp 35) (.tmp 39) 27 rfl 5 i5 (.int .u8 0) 1 Tryz.underlying27 hi5 hz5a hz5b hz5c rfl (W1.heap.size) _ (bs []) rfl (Own.mono o_e2.out (Nat.le_refl _) (by omega)) _ rfl (bs (b.take (m + k))) sE3.out (bs_one (b.take (m + k))) c6_3 c7_3 (by omega) ?_))
     intro v_p W3 o_p3 _ g3
     clear a_a1
     have o_p3 : Own W3 (W1.heap.size) W3.heap.size 5 v_p (bs (b.take (m + k))) := o_p3
     have o_p3h : Hid (Own W3 (W1.heap.size) W3.heap.size 5 v_p (bs (b.take (m + k)))) := o_p3
     clear o_p3
     have o_p3 := o_p3h
     clear o_p3h
     obtain ⟨ao_p, L_p, cap_p, rfl, _, _⟩ := Mem.Own.form o_p3.out
     have z3 := g3.size
     have B3 : Hid (Below w.heap.size w W3) := belowGro B2.out g3 B2.out.size (Own.low o_e2.out (by have := B2.out.size; omega))
     have r_a3 := Ke.n r_a2 o_e2 g3
     have c_a3 := Ke.c r_a3
     clear r_a2 c_a2 o_e2
     clear g3 sE3 c6_3 c7_3
     go_wp2
     go_ret
     refine ⟨_, rfl, ?_, B3.out⟩
     rw [HKK.out]
     exact Own.mono o_p3.out (by omega) (Nat.le_refl _)
   ·
    have hKK : K = m := by omega
    have HKK : Hid (K = m) := hKK
    have hKb : m ≤ b.length := by omega
    clear hKK hK
    go_enter Tryz.func96, Tryz.ntmps96
    go_upto_region 10 with fail
    rw [HW1.out]
    have a_a1 := Ke.a r_a1
    obtain ⟨W2, HW2, b2, o_e2⟩ : ∃ X, Hid ((W1.alloc (.cells #[] 5)) = X) ∧ Below W1.heap.size W1 X ∧ Hid (Own X W1.heap.size X.heap.size 5 (.slice (some ⟨W1.heap.size, 0, none⟩) 0 0) (bs [])) := ⟨_, rfl, (Below.refl _ _).alloc (Nat.le_refl _) _, Puts.Own.empty W1 W1.heap.size (Nat.le_refl _)⟩
    have z2 := b2.size
    have B2 := Ke.b B1 b2
    have r_a2 := Ke.r r_a1 b2
    have c_a2 := Ke.c r_a2
    clear r_a1 c_a1
    have c6_3 : (bs []).length + (bs (b.take (m))).length ≤ maxLen := by rw [bs_len, bs_len]; unfold maxLen; (try simp only [List.length_nil]); rw [List.length_take]; omega
    have c7_3 : ((bs []).length + (bs (b.take (m))).length) * 1 ≤ 140737488355328 := by rw [bs_len, bs_len]; (try simp only [List.length_nil]); rw [List.length_take]; omega
    have sE3 : Hid (Sl W2 _ (bs (b.take (m)))) := (by have h9 := Sl.front ((HSB.out.later B2.out)) (m) (by rw [bs_len]; omega); have e9 : bs (b.take (m)) = (bs b).take (m) := by { unfold bs; rw [List.map_take] }; rw [e9]; exact h9)
    go_wp2_with (at_builtin; (try rw [HW2.out]); go_must (refine wpl_app _ rfl (.tmp 35) (.tmp 39) 27 rfl 5 i5 (.int .u8 0) 1 Tryz.underlying27 hi5 hz5a hz5b hz5c rfl (W1.heap.size) _ (bs []) rfl (Own.mono o_e2.out (Nat.le_refl _) (by omega)) _ rfl (bs (b.take (m))) sE3.out (bs_one (b.take (m))) c6_3 c7_3 (by omega) ?_))
    intro v_p W3 o_p3 _ g3
    clear a_a1
    have o_p3 : Own W3 (W1.heap.size) W3.heap.size 5 v_p (bs (b.take (m))) := o_p3
    have o_p3h : Hid (Own W3 (W1.heap.size) W3.heap.size 5 v_p (bs (b.take (m)))) := o_p3
    clear o_p3
    have o_p3 := o_p3h
    clear o_p3h
    obtain ⟨ao_p, L_p, cap_p, rfl, _, _⟩ := Mem.Own.form o_p3.out
    have z3 := g3.size
    have B3 : Hid (Below w.heap.size w W3) := belowGro B2.out g3 B2.out.size (Own.low o_e2.out (by have := B2.out.size; omega))
    have r_a3 := Ke.n r_a2 o_e2 g3
    have c_a3 := Ke.c r_a3
    clear r_a2 c_a2 o_e2
    clear g3 sE3 c6_3 c7_3
    go_wp2
    go_ret
    refine ⟨_, rfl, ?_, B3.out⟩
    rw [HKK.out]
    exact Own.mono o_p3.out (by omega) (Nat.le_refl _)
end Go.Proofs.YtchonoonclllbabGreatDoor.Sr
namespace Go.Proofs.YtchonoonclllbabGreatDoor.Mi
open Go.RowKit Go.Proofs.YtchonoonclllbabGreatDoor.Mem Go.Proofs.YtchonoonclllbabGreatDoor.Laws Go.Proofs.YtchonoonclllbabGreatDoor.Bytes Go.Proofs.YtchonoonclllbabGreatDoor.Sha Go.Proofs.YtchonoonclllbabGreatDoor.Tr Go.Proofs.YtchonoonclllbabGreatDoor.He Go.Proofs.YtchonoonclllbabGreatDoor.Lg Go.Proofs.YtchonoonclllbabGreatDoor.Sr Go.Proofs.YtchonoonclllbabGreatDoor.Mg
set_option linter.unusedVariables false
set_option linter.unusedSimpArgs false
set_option maxRecDepth 1000000 in
set_option maxHeartbeats 16000000 in
theorem sync_spec (w : World) (v vb vt : Value) (m : Mr) (t : List Hd) (hs : Sl w v (ss m.st.l)) (hb : Sl w vb (bs m.st.b)) (hby : Byt m.st.b) (hst : Sh w vt t) (hl : m.st.l.length ≤ 1000000000) (hbl : m.st.b.length ≤ 1000000000) (htl : t.length ≤ 1000000000) (hz : ∀ s ∈ m.st.l, s.size ≤ 10000000000) :
  Calls Tryz.prog 30 #[.agg #[.int .i64 m.id, v, .int .i64 m.st.h.n, .string m.st.h.r, vb, .int .i64 m.st.s, .int .i64 m.b.n, .string m.b.r], vt] w fun e w' => ∃ v' vb', e = .returned (.agg #[.int .i64 (sync m t).id, v', .int .i64 (sync m t).st.h.n, .string (sync m t).st.h.r, vb', .int .i64 (sync m t).st.s, .int .i64 (sync m t).b.n, .string (sync m t).b.r]) ∧ Own w' w.heap.size w'.heap.size 9 v' (ss (sync m t).st.l) ∧ Own w' w.heap.size w'.heap.size 5 vb' (bs (sync m t).st.b) ∧ Below w.heap.size w w' := by
 obtain ⟨R, hR⟩ : ∃ R, sync m t = R := ⟨_, rfl⟩
 have HR : Hid (sync m t = R) := hR
 rw [hR]
 obtain ⟨id, ⟨l, h, b, s⟩, g⟩ := m
 simp only at *
 have HS : Hid (Sl w v (ss l)) := hs
 have HSB : Hid (Sl w vb (bs b)) := hb
 have HBY : Hid (Byt b) := hby
 have HT : Hid (Sh w vt t) := hst
 obtain ⟨ao0, cap0, rfl, hc0⟩ := hs.form
 obtain ⟨ao1, cap1, rfl, hc1⟩ := hb.form
 obtain ⟨ao2, cap2, rfl, hc2⟩ := hst.form
 simp only [ss_len, bs_len] at *
 clear hs hb hR hby hst
 have B0 : Hid (Below w.heap.size w w) := Below.refl _ _
 obtain ⟨W1, HW1, b1, y1, hS1, r_a1, r_res1⟩ := Ke.l2 w #[.int .i64 id, .slice ao0 l.length cap0, .int .i64 h.n, .string h.r, .slice ao1 b.length cap1, .int .i64 s, .int .i64 g.n, .string g.r] 44 #[.int .i64 0, .slice none 0 0, .int .i64 0, .string ⟨#[]⟩, .slice none 0 0, .int .i64 0, .int .i64 0, .string ⟨#[]⟩] 44
 have z1 := b1.size
 have B1 := Ke.b B0 b1
 have c_a1 := Ke.c r_a1
 have c_res1 := Ke.c r_res1
 have q1 : ∀ W v1 v2, Sl W v1 (ss l) → Sl W v2 (bs b) → _ := fun W v1 v2 h1 h2 => mcopy_spec W v1 v2 ⟨id, ⟨l, h, b, s⟩, g⟩ h1 h2 hl hbl
 simp only at q1
 have q2 : ∀ W v1 v2 v3, Sl W v1 (ss l) → Sl W v2 (bs b) → Sh W v3 t → _ := fun W v1 v2 v3 h1 h2 h3 => mirrorok_spec W v1 v2 v3 ⟨id, ⟨l, h, b, s⟩, g⟩ t h1 h2 HBY.out h3 hl hbl htl hz
 obtain ⟨A, hA⟩ : ∃ A, mirrorOk ⟨id, ⟨l, h, b, s⟩, g⟩ t = A := ⟨_, rfl⟩
 simp only [hA] at q2
 have HA : Hid (mirrorOk ⟨id, ⟨l, h, b, s⟩, g⟩ t = A) := hA
 clear hA
 clear hz
 go_enter Tryz.func30, Tryz.ntmps30
 go_wp2_with fail
 rw [HW1.out]
 refine (q1 W1 _ _ (HS.out.later B1.out) (HSB.out.later B1.out)).mono ?_
 rintro e W2 ⟨v_s, v_p, rfl, o_s2, o_p2, b2⟩
 obtain ⟨lo_s, hi_s, lo_p, hi_p, d1_s, d2_s, d3_s, d4_s, d5_s, d6_s, d7_s, oo_s, oo_p⟩ := Sr.pairN o_s2 o_p2 b2.size
 clear o_s2 o_p2
 obtain ⟨ao_s, L_s, cap_s, rfl, _, _⟩ := oo_s.form
 obtain ⟨ao_p, L_p, cap_p, rfl, _, _⟩ := oo_p.form
 have o_s2 : Hid (Own W2 lo_s hi_s 9 (.slice ao_s L_s cap_s) (ss l)) := oo_s
 have o_p2 : Hid (Own W2 lo_p hi_p 5 (.slice ao_p L_p cap_p) (bs b)) := oo_p
 clear oo_s oo_p
 have z2 := b2.size
 have B2 := Ke.b B1 b2
 have r_a2 := Ke.r r_a1 b2
 have r_res2 := Ke.r r_res1 b2
 have c_a2 := Ke.c r_a2
 have c_res2 := Ke.c r_res2
 clear r_a1 c_a1 r_res1 c_res1
 obtain rfl : L_p = b.length := by obtain ⟨a9, L9, c9, he, h1, h2⟩ := Mem.Own.form o_p2.out; injection he with _ he2 _; rw [bs_len] at h1 h2; omega
 have a_a2 := Ke.a r_a2
 have a_res2 := Ke.a r_res2
 obtain ⟨W3, HW3, b3, y3, hS3, r_out3⟩ := Ke.l1 W2 #[.int .i64 id, .slice ao_s L_s cap_s, .int .i64 h.n, .string h.r, .slice ao_p b.length cap_p, .int .i64 s, .int .i64 g.n, .string g.r] 44
 have z3 := b3.size
 have B3 := Ke.b B2 b3
 have r_a3 := Ke.r r_a2 b3
 have r_res3 := Ke.r r_res2 b3
 have o_s3 := Ke.o o_s2 b3
 have o_p3 := Ke.o o_p2 b3
 have c_a3 := Ke.c r_a3
 have c_res3 := Ke.c r_res3
 have c_out3 := Ke.c r_out3
 clear r_a2 c_a2 r_res2 c_res2 o_s2 o_p2
 go_wp2_with fail
 rw [HW3.out]
 clear a_a2 a_res2
 refine (q2 W3 _ _ _ (HS.out.later B3.out) (HSB.out.later B3.out) (HT.out.later B3.out)).mono ?_
 rintro e W4 ⟨rfl, b4⟩
 have z4 := b4.size
 have B4 := Ke.b B3 b4
 have r_a4 := Ke.r r_a3 b4
 have r_res4 := Ke.r r_res3 b4
 have r_out4 := Ke.r r_out3 b4
 have o_s4 := Ke.o o_s3 b4
 have o_p4 := Ke.o o_p3 b4
 have c_a4 := Ke.c r_a4
 have c_res4 := Ke.c r_res4
 have c_out4 := Ke.c r_out4
 clear r_a3 c_a3 r_res3 c_res3 r_out3 c_out3 o_s3 o_p3
 cases A
 ·
  have HN : Hid (R = ⟨id, ⟨l, h, b, s⟩, g⟩) := by show _ = _; rw [← HR.out]; unfold sync; rw [HA.out]; rfl
  go_wp2_with (first | (refine wpList_load_row rfl 44 _ rfl (W2.heap.size) rfl 44 (mq id (.slice ao_s L_s cap_s) h (.slice ao_p b.length cap_p) s g) (0, 0) _ r_out4.out Tryz.underlying44 rfl (sizeQ _ _ _ _ _ _) ?_) | (refine wpList_store_row rfl 44 _ _ rfl (w.heap.size + 1) (mq id (.slice ao_s L_s cap_s) h (.slice ao_p b.length cap_p) s g) rfl rfl 44 _ r_res4.out (sizeQ _ _ _ _ _ _) rfl (oneQ _ _ _ _ rfl rfl) ?_))
  refine bodyPost_ret (v := .agg (mq id (.slice ao_s L_s cap_s) h (.slice ao_p b.length cap_p) s g)) (results_cell_row rfl _ _ (w.heap.size + 1) 44 _ (0, 0) _ rfl (setRow_heap _ _ _ _ _ (0, 0) r_res4.out) Tryz.underlying44 rfl (sizeQ _ _ _ _ _ _)) rfl ⟨.slice ao_s L_s cap_s, .slice ao_p b.length cap_p, by rw [HN.out]; rfl, ?_, ?_, below_setRow B4.out (by omega) _⟩
  ·
   rw [HN.out]
   exact (Own.setRow o_s4.out _ (by omega)).mono (by omega) (by rw [size_setRow]; omega)
  ·
   rw [HN.out]
   exact (Own.setRow o_p4.out _ (by omega)).mono (by omega) (by rw [size_setRow]; omega)
 ·
  have HN : Hid (R = ⟨id, ⟨l, h, b, (b.length : Int)⟩, g⟩) := by show _ = _; rw [← HR.out]; unfold sync; rw [HA.out]; rfl
  go_wp2_with (refine wpl_oneG rfl 3 _ _ rfl (W2.heap.size) 5 (.int .i64 (b.length : Int)) rfl rfl [.int .i64 id, .slice ao_s L_s cap_s, .int .i64 h.n, .string h.r, .slice ao_p b.length cap_p, .int .i64 s, .int .i64 g.n, .string g.r] 44 r_out4.out (Nat.le_of_ble_eq_true rfl) (by kernel_rfl) rfl [.int .i64 id, .slice ao_s L_s cap_s, .int .i64 h.n, .string h.r, .slice ao_p b.length cap_p, .int .i64 (b.length : Int), .int .i64 g.n, .string g.r] rfl ?_)
  intro W5 r_out5 g5
  have r_out5 := Ke.h r_out5
  have z5 := g5.size
  have B5 : Hid (Below w.heap.size w W5) := belowGro B4.out g5 B4.out.size (fun k9 h9 => by injection h9 with h9; have := B4.out.size; omega)
  have r_a5 := Ke.s r_a4 g5
  have r_res5 := Ke.s r_res4 g5
  have o_s5 := Ke.t o_s4 r_out4 g5
  have o_p5 := Ke.t o_p4 r_out4 g5
  have c_a5 := Ke.c r_a5
  have c_res5 := Ke.c r_res5
  have c_out5 := Ke.c r_out5
  clear r_a4 c_a4 r_res4 c_res4 o_s4 o_p4
  clear r_out4 c_out4
  clear g5
  go_wp2_with (first | (refine wpList_load_row rfl 44 _ rfl (W2.heap.size) rfl 44 (mq id (.slice ao_s L_s cap_s) h (.slice ao_p b.length cap_p) (b.length : Int) g) (0, 0) _ r_out5.out Tryz.underlying44 rfl (sizeQ _ _ _ _ _ _) ?_) | (refine wpList_store_row rfl 44 _ _ rfl (w.heap.size + 1) (mq id (.slice ao_s L_s cap_s) h (.slice ao_p b.length cap_p) (b.length : Int) g) rfl rfl 44 _ r_res5.out (sizeQ _ _ _ _ _ _) rfl (oneQ _ _ _ _ rfl rfl) ?_))
  refine bodyPost_ret (v := .agg (mq id (.slice ao_s L_s cap_s) h (.slice ao_p b.length cap_p) (b.length : Int) g)) (results_cell_row rfl _ _ (w.heap.size + 1) 44 _ (0, 0) _ rfl (setRow_heap _ _ _ _ _ (0, 0) r_res5.out) Tryz.underlying44 rfl (sizeQ _ _ _ _ _ _)) rfl ⟨.slice ao_s L_s cap_s, .slice ao_p b.length cap_p, by rw [HN.out]; rfl, ?_, ?_, below_setRow B5.out (by omega) _⟩
  ·
   rw [HN.out]
   exact (Own.setRow o_s5.out _ (by omega)).mono (by omega) (by rw [size_setRow]; omega)
  ·
   rw [HN.out]
   exact (Own.setRow o_p5.out _ (by omega)).mono (by omega) (by rw [size_setRow]; omega)
set_option maxRecDepth 1000000 in
set_option maxHeartbeats 16000000 in
theorem crash1_spec (w : World) (v vb vt : Value) (m : Mr) (t : List Hd) (keep : Int) (hs1 : -9223372036854775808 ≤ m.st.s) (hs2 : m.st.s ≤ 9223372036854775807) (hk1 : -9223372036854775808 ≤ keep) (hk2 : keep ≤ 9223372036854775807) (hs : Sl w v (ss m.st.l)) (hb : Sl w vb (bs m.st.b)) (hby : Byt m.st.b) (hst : Sh w vt t) (hl : m.st.l.length ≤ 1000000000) (hbl : m.st.b.length ≤ 1000000000) (htl : t.length ≤ 1000000000) (hz : ∀ s ∈ m.st.l, s.size ≤ 10000000000) :
  Calls Tryz.prog 62 #[.agg #[.int .i64 m.id, v, .int .i64 m.st.h.n, .string m.st.h.r, vb, .int .i64 m.st.s, .int .i64 m.b.n, .string m.b.r], vt, .int .i64 keep] w fun e w' => ∃ v' vb', e = .returned (.tuple #[.agg #[.int .i64 (crash1 m t keep).1.id, v', .int .i64 (crash1 m t keep).1.st.h.n, .string (crash1 m t keep).1.st.h.r, vb', .int .i64 (crash1 m t keep).1.st.s, .int .i64 (crash1 m t keep).1.b.n, .string (crash1 m t keep).1.b.r], .int .i64 (crash1 m t keep).2]) ∧ Own w' w.heap.size w'.heap.size 9 v' (ss (crash1 m t keep).1.st.l) ∧ Own w' w.heap.size w'.heap.size 5 vb' (bs (crash1 m t keep).1.st.b) ∧ Below w.heap.size w w' := by
 obtain ⟨R, hR⟩ : ∃ R, crash1 m t keep = R := ⟨_, rfl⟩
 have HR : Hid (crash1 m t keep = R) := hR
 rw [hR]
 obtain ⟨id, ⟨l, h, b, s⟩, g⟩ := m
 simp only at *
 have HS : Hid (Sl w v (ss l)) := hs
 have HSB : Hid (Sl w vb (bs b)) := hb
 have HBY : Hid (Byt b) := hby
 have HT : Hid (Sh w vt t) := hst
 obtain ⟨ao0, cap0, rfl, hc0⟩ := hs.form
 obtain ⟨ao1, cap1, rfl, hc1⟩ := hb.form
 obtain ⟨ao2, cap2, rfl, hc2⟩ := hst.form
 simp only [ss_len, bs_len] at *
 clear hs hb hR hby hst
 have B0 : Hid (Below w.heap.size w w) := Below.refl _ _
 obtain ⟨W1, HW1, b1, y1, hS1, r_a1, r_res1⟩ := Ke.l2 w #[.int .i64 id, .slice ao0 l.length cap0, .int .i64 h.n, .string h.r, .slice ao1 b.length cap1, .int .i64 s, .int .i64 g.n, .string g.r] 44 #[.int .i64 0, .slice none 0 0, .int .i64 0, .string ⟨#[]⟩, .slice none 0 0, .int .i64 0, .int .i64 0, .string ⟨#[]⟩] 44
 have z1 := b1.size
 have B1 := Ke.b B0 b1
 have c_a1 := Ke.c r_a1
 have c_res1 := Ke.c r_res1
 have q3 : ∀ W v1 v2, Sl W v1 (ss l) → Sl W v2 (bs b) → _ := fun W v1 v2 h1 h2 => fall_spec W v1 v2 l h b s keep h1 h2 hbl hs1 hs2 hk1 hk2
 obtain ⟨xs, hxs⟩ : ∃ xs, b.take (fallN ⟨l, h, b, s⟩ keep) = xs := ⟨_, rfl⟩
 simp only [hxs] at q3
 have hxl : xs.length ≤ 1000000000 := by rw [← hxs, List.length_take]; omega
 have hxb : Byt xs := fun y hy => HBY.out y (List.mem_of_mem_take (by rw [hxs]; exact hy))
 have q4 : ∀ W v1 v2, Sh W v1 t → Sl W v2 (bs xs) → _ := fun W v1 v2 h1 h2 => open_any W v1 v2 t xs _ h1 h2 hxb (by omega) htl rfl
 obtain ⟨L, H, Bb, S, c, hO⟩ : ∃ L H B S c, openS t xs = (⟨L, H, B, S⟩, c) := ⟨_, _, _, _, _, rfl⟩
 simp only [hO] at q4
 have HO : Hid (crash1 ⟨id, ⟨l, h, b, s⟩, g⟩ t keep = (⟨id, ⟨L, H, Bb, S⟩, H⟩, (c : Int))) := by show _ = _; unfold crash1 fall; simp only; rw [hxs, hO]
 clear hxs hO hxb
 have HN : Hid (R = (⟨id, ⟨L, H, Bb, S⟩, H⟩, (c : Int))) := by show _ = _; rw [← HR.out]; exact HO.out
 clear HR HO hz
 go_enter Tryz.func62, Tryz.ntmps62
 go_wp2_with fail
 rw [HW1.out]
 refine (q3 W1 _ _ (HS.out.later B1.out) (HSB.out.later B1.out)).mono ?_
 rintro e W2 ⟨v_f, rfl, o_f2, b2⟩
 obtain ⟨ao_f, L_f, cap_f, rfl, hL_f, hM_f⟩ := o_f2.form
 have o_f2 : Hid (Own W2 W1.heap.size W2.heap.size 5 (.slice ao_f L_f cap_f) (bs xs)) := o_f2
 clear hL_f hM_f
 have z2 := b2.size
 have B2 := Ke.b B1 b2
 have r_a2 := Ke.r r_a1 b2
 have r_res2 := Ke.r r_res1 b2
 have c_a2 := Ke.c r_a2
 have c_res2 := Ke.c r_res2
 clear r_a1 c_a1 r_res1 c_res1
 go_wp2_with fail
 refine (q4 W2 _ _ (HT.out.later B2.out) o_f2.out.sl).mono ?_
 rintro e W3 ⟨v_n, v_np, rfl, o_n3, o_np3, b3⟩
 obtain ⟨lo_n, hi_n, lo_np, hi_np, d1_n, d2_n, d3_n, d4_n, d5_n, d6_n, d7_n, oo_n, oo_np⟩ := Sr.pairN o_n3 o_np3 b3.size
 clear o_n3 o_np3
 obtain ⟨ao_n, L_n, cap_n, rfl, _, _⟩ := oo_n.form
 obtain ⟨ao_np, L_np, cap_np, rfl, _, _⟩ := oo_np.form
 have o_n3 : Hid (Own W3 lo_n hi_n 9 (.slice ao_n L_n cap_n) (ss L)) := oo_n
 have o_np3 : Hid (Own W3 lo_np hi_np 5 (.slice ao_np L_np cap_np) (bs Bb)) := oo_np
 clear oo_n oo_np
 have z3 := b3.size
 have B3 := Ke.b B2 b3
 have r_a3 := Ke.r r_a2 b3
 have r_res3 := Ke.r r_res2 b3
 have o_f3 := Ke.o o_f2 b3
 have c_a3 := Ke.c r_a3
 have c_res3 := Ke.c r_res3
 clear r_a2 c_a2 r_res2 c_res2 o_f2
 clear o_f3
 have a_a3 := Ke.a r_a3
 have a_res3 := Ke.a r_res3
 obtain ⟨W4, HW4, b4, y4, hS4, r_st4⟩ := Ke.l1 W3 #[.slice ao_n L_n cap_n, .int .i64 H.n, .string H.r, .slice ao_np L_np cap_np, .int .i64 S] 42
 have z4 := b4.size
 have B4 := Ke.b B3 b4
 have r_a4 := Ke.r r_a3 b4
 have r_res4 := Ke.r r_res3 b4
 have o_n4 := Ke.o o_n3 b4
 have o_np4 := Ke.o o_np3 b4
 have c_a4 := Ke.c r_a4
 have c_res4 := Ke.c r_res4
 have c_st4 := Ke.c r_st4
 clear r_a3 c_a3 r_res3 c_res3 o_n3 o_np3
 go_wp2_with ((try rw [HW4.out]); refine wpList_store_row rfl 44 _ _ rfl (w.heap.size + 1) (mq id (.slice ao_n L_n cap_n) H (.slice ao_np L_np cap_np) S H) rfl rfl 44 _ r_res4.out (sizeQ _ _ _ _ _ _) rfl (oneQ _ _ _ _ rfl rfl) ?_)
 refine bodyPost_ret (res_row_tmp rfl _ _ (w.heap.size + 1) 44 (mq id (.slice ao_n L_n cap_n) H (.slice ao_np L_np cap_np) S H) (0, 0) _ rfl (setRow_heap _ _ _ _ _ (0, 0) r_res4.out) Tryz.underlying44 rfl (sizeQ _ _ _ _ _ _)) rfl ⟨.slice ao_n L_n cap_n, .slice ao_np L_np cap_np, by rw [HN.out]; rfl, ?_, ?_, below_setRow B4.out (by omega) _⟩
 ·
  rw [HN.out]
  exact (Own.setRow o_n4.out _ (by omega)).mono (by omega) (by rw [size_setRow]; omega)
 ·
  rw [HN.out]
  exact (Own.setRow o_np4.out _ (by omega)).mono (by omega) (by rw [size_setRow]; omega)
set_option maxRecDepth 1000000 in
set_option maxHeartbeats 16000000 in
theorem crash_spec (w : World) (v vb vt : Value) (m : Mr) (t : List Hd) (keep : Int) (hs1 : -9223372036854775808 ≤ m.st.s) (hs2 : m.st.s ≤ 9223372036854775807) (hk1 : -9223372036854775808 ≤ keep) (hk2 : keep ≤ 9223372036854775807) (hs : Sl w v (ss m.st.l)) (hb : Sl w vb (bs m.st.b)) (hby : Byt m.st.b) (hst : Sh w vt t) (hl : m.st.l.length ≤ 1000000000) (hbl : m.st.b.length ≤ 1000000000) (htl : t.length ≤ 1000000000) (hz : ∀ s ∈ m.st.l, s.size ≤ 10000000000) :
  Calls Tryz.prog 32 #[.agg #[.int .i64 m.id, v, .int .i64 m.st.h.n, .string m.st.h.r, vb, .int .i64 m.st.s, .int .i64 m.b.n, .string m.b.r], vt, .int .i64 keep] w fun e w' => ∃ v' vb', e = .returned (.tuple #[.agg #[.int .i64 (crash m t keep).1.id, v', .int .i64 (crash m t keep).1.st.h.n, .string (crash m t keep).1.st.h.r, vb', .int .i64 (crash m t keep).1.st.s, .int .i64 (crash m t keep).1.b.n, .string (crash m t keep).1.b.r], .int .i64 (crash m t keep).2]) ∧ Own w' w.heap.size w'.heap.size 9 v' (ss (crash m t keep).1.st.l) ∧ Own w' w.heap.size w'.heap.size 5 vb' (bs (crash m t keep).1.st.b) ∧ Below w.heap.size w w' := by
 obtain ⟨R, hR⟩ : ∃ R, crash m t keep = R := ⟨_, rfl⟩
 have HR : Hid (crash m t keep = R) := hR
 rw [hR]
 obtain ⟨id, ⟨l, h, b, s⟩, g⟩ := m
 simp only at *
 have HS : Hid (Sl w v (ss l)) := hs
 have HSB : Hid (Sl w vb (bs b)) := hb
 have HBY : Hid (Byt b) := hby
 have HT : Hid (Sh w vt t) := hst
 obtain ⟨ao0, cap0, rfl, hc0⟩ := hs.form
 obtain ⟨ao1, cap1, rfl, hc1⟩ := hb.form
 obtain ⟨ao2, cap2, rfl, hc2⟩ := hst.form
 simp only [ss_len, bs_len] at *
 clear hs hb hR hby hst
 have B0 : Hid (Below w.heap.size w w) := Below.refl _ _
 obtain ⟨W1, HW1, b1, y1, hS1, r_a1, r_res1⟩ := Ke.l2 w #[.int .i64 id, .slice ao0 l.length cap0, .int .i64 h.n, .string h.r, .slice ao1 b.length cap1, .int .i64 s, .int .i64 g.n, .string g.r] 44 #[.int .i64 0, .slice none 0 0, .int .i64 0, .string ⟨#[]⟩, .slice none 0 0, .int .i64 0, .int .i64 0, .string ⟨#[]⟩] 44
 have z1 := b1.size
 have B1 := Ke.b B0 b1
 have c_a1 := Ke.c r_a1
 have c_res1 := Ke.c r_res1
 have q1 : ∀ W v1 v2, Sl W v1 (ss l) → Sl W v2 (bs b) → _ := fun W v1 v2 h1 h2 => mcopy_spec W v1 v2 ⟨id, ⟨l, h, b, s⟩, g⟩ h1 h2 hl hbl
 simp only at q1
 have q2 : ∀ W v1 v2 v3, Sl W v1 (ss l) → Sl W v2 (bs b) → Sh W v3 t → _ := fun W v1 v2 v3 h1 h2 h3 => mirrorok_spec W v1 v2 v3 ⟨id, ⟨l, h, b, s⟩, g⟩ t h1 h2 HBY.out h3 hl hbl htl hz
 obtain ⟨A, hA⟩ : ∃ A, mirrorOk ⟨id, ⟨l, h, b, s⟩, g⟩ t = A := ⟨_, rfl⟩
 simp only [hA] at q2
 have HA : Hid (mirrorOk ⟨id, ⟨l, h, b, s⟩, g⟩ t = A) := hA
 clear hA
 have q3 : ∀ W v1 v2 v3, Sl W v1 (ss l) → Sl W v2 (bs b) → Sh W v3 t → _ := fun W v1 v2 v3 h1 h2 h3 => crash1_spec W v1 v2 v3 ⟨id, ⟨l, h, b, s⟩, g⟩ t keep hs1 hs2 hk1 hk2 h1 h2 HBY.out h3 hl hbl htl hz
 obtain ⟨i2, L, H, Bb, S, G2, c, hO⟩ : ∃ i2 L H B S G2 c, crash1 ⟨id, ⟨l, h, b, s⟩, g⟩ t keep = (⟨i2, ⟨L, H, B, S⟩, G2⟩, c) := ⟨_, _, _, _, _, _, _, rfl⟩
 simp only [hO] at q3
 have HO : Hid (crash1 ⟨id, ⟨l, h, b, s⟩, g⟩ t keep = (⟨i2, ⟨L, H, Bb, S⟩, G2⟩, c)) := hO
 clear hO
 clear hz
 go_enter Tryz.func32, Tryz.ntmps32
 go_wp2_with fail
 rw [HW1.out]
 refine (q2 W1 _ _ _ (HS.out.later B1.out) (HSB.out.later B1.out) (HT.out.later B1.out)).mono ?_
 rintro e W2 ⟨rfl, b2⟩
 have z2 := b2.size
 have B2 := Ke.b B1 b2
 have r_a2 := Ke.r r_a1 b2
 have r_res2 := Ke.r r_res1 b2
 have c_a2 := Ke.c r_a2
 have c_res2 := Ke.c r_res2
 clear r_a1 c_a1 r_res1 c_res1
 cases A
 ·
  have HN : Hid (R = (⟨id, ⟨l, h, b, s⟩, g⟩, -1)) := by show _ = _; rw [← HR.out]; unfold crash; rw [HA.out]; rfl
  go_wp2_with fail
  refine (q1 W2 _ _ (HS.out.later B2.out) (HSB.out.later B2.out)).mono ?_
  rintro e W3 ⟨v_s, v_p, rfl, o_s3, o_p3, b3⟩
  obtain ⟨lo_s, hi_s, lo_p, hi_p, d1_s, d2_s, d3_s, d4_s, d5_s, d6_s, d7_s, oo_s, oo_p⟩ := Sr.pairN o_s3 o_p3 b3.size
  clear o_s3 o_p3
  obtain ⟨ao_s, L_s, cap_s, rfl, _, _⟩ := oo_s.form
  obtain ⟨ao_p, L_p, cap_p, rfl, _, _⟩ := oo_p.form
  have o_s3 : Hid (Own W3 lo_s hi_s 9 (.slice ao_s L_s cap_s) (ss l)) := oo_s
  have o_p3 : Hid (Own W3 lo_p hi_p 5 (.slice ao_p L_p cap_p) (bs b)) := oo_p
  clear oo_s oo_p
  have z3 := b3.size
  have B3 := Ke.b B2 b3
  have r_a3 := Ke.r r_a2 b3
  have r_res3 := Ke.r r_res2 b3
  have c_a3 := Ke.c r_a3
  have c_res3 := Ke.c r_res3
  clear r_a2 c_a2 r_res2 c_res2
  go_wp2_with (refine wpList_store_row rfl 44 _ _ rfl (w.heap.size + 1) (mq id (.slice ao_s L_s cap_s) h (.slice ao_p L_p cap_p) s g) rfl rfl 44 _ r_res3.out (sizeQ _ _ _ _ _ _) rfl (oneQ _ _ _ _ rfl rfl) ?_)
  refine bodyPost_ret (res_row_tmp rfl _ _ (w.heap.size + 1) 44 (mq id (.slice ao_s L_s cap_s) h (.slice ao_p L_p cap_p) s g) (0, 0) _ rfl (setRow_heap _ _ _ _ _ (0, 0) r_res3.out) Tryz.underlying44 rfl (sizeQ _ _ _ _ _ _)) rfl ⟨.slice ao_s L_s cap_s, .slice ao_p L_p cap_p, by rw [HN.out]; rfl, ?_, ?_, below_setRow B3.out (by omega) _⟩
  ·
   rw [HN.out]
   exact (Own.setRow o_s3.out _ (by omega)).mono (by omega) (by rw [size_setRow]; omega)
  ·
   rw [HN.out]
   exact (Own.setRow o_p3.out _ (by omega)).mono (by omega) (by rw [size_setRow]; omega)
 ·
  have HN : Hid (R = (⟨i2, ⟨L, H, Bb, S⟩, G2⟩, c)) := by show _ = _; rw [← HR.out]; unfold crash; rw [HA.out]; exact HO.out
  go_wp2_with fail
  refine (q3 W2 _ _ _ (HS.out.later B2.out) (HSB.out.later B2.out) (HT.out.later B2.out)).mono ?_
  rintro e W3 ⟨v_n, v_np, rfl, o_n3, o_np3, b3⟩
  obtain ⟨lo_n, hi_n, lo_np, hi_np, d1_n, d2_n, d3_n, d4_n, d5_n, d6_n, d7_n, oo_n, oo_np⟩ := Sr.pairN o_n3 o_np3 b3.size
  clear o_n3 o_np3
  obtain ⟨ao_n, L_n, cap_n, rfl, _, _⟩ := oo_n.form
  obtain ⟨ao_np, L_np, cap_np, rfl, _, _⟩ := oo_np.form
  have o_n3 : Hid (Own W3 lo_n hi_n 9 (.slice ao_n L_n cap_n) (ss L)) := oo_n
  have o_np3 : Hid (Own W3 lo_np hi_np 5 (.slice ao_np L_np cap_np) (bs Bb)) := oo_np
  clear oo_n oo_np
  have z3 := b3.size
  have B3 := Ke.b B2 b3
  have r_a3 := Ke.r r_a2 b3
  have r_res3 := Ke.r r_res2 b3
  have c_a3 := Ke.c r_a3
  have c_res3 := Ke.c r_res3
  clear r_a2 c_a2 r_res2 c_res2
  go_wp2_with (refine wpList_store_row rfl 44 _ _ rfl (w.heap.size + 1) (mq i2 (.slice ao_n L_n cap_n) H (.slice ao_np L_np cap_np) S G2) rfl rfl 44 _ r_res3.out (sizeQ _ _ _ _ _ _) rfl (oneQ _ _ _ _ rfl rfl) ?_)
  refine bodyPost_ret (res_row_tmp rfl _ _ (w.heap.size + 1) 44 (mq i2 (.slice ao_n L_n cap_n) H (.slice ao_np L_np cap_np) S G2) (0, 0) _ rfl (setRow_heap _ _ _ _ _ (0, 0) r_res3.out) Tryz.underlying44 rfl (sizeQ _ _ _ _ _ _)) rfl ⟨.slice ao_n L_n cap_n, .slice ao_np L_np cap_np, by rw [HN.out]; rfl, ?_, ?_, below_setRow B3.out (by omega) _⟩
  ·
   rw [HN.out]
   exact (Own.setRow o_n3.out _ (by omega)).mono (by omega) (by rw [size_setRow]; omega)
  ·
   rw [HN.out]
   exact (Own.setRow o_np3.out _ (by omega)).mono (by omega) (by rw [size_setRow]; omega)
end Go.Proofs.YtchonoonclllbabGreatDoor.Mi
namespace Go.Proofs.YtchonoonclllbabGreatDoor.Is
open Go.RowKit Go.Extern.Stop Go.Stop Go.Extern
set_option linter.unusedVariables false
set_option linter.unusedSimpArgs false
set_option maxRecDepth 1000000 in
set_option maxHeartbeats 2000000 in
theorem is_nil (b : Addr) (w : World) :
  Calls Tryz.prog 171 #[.nilIface, .iface 225 (.pointer (some b))] w fun e w' => e = .returned (.bool false) ∧ Below w.heap.size w w' := by
 have hnl := run_eql_iface_nil_left (P := Tryz.prog) w 225 (.pointer (some b)) Tryz.underlying168
 go_enter Tryz.func171, Tryz.ntmps171
 go_wp2
 go_ret
 exact ⟨rfl, Below.refl _ _⟩
def Four (w : World) (a0 a1 a2 a3 : Addr) : Prop := At w 1 a0 ∧ At w 2 a1 ∧ At w 3 a2 ∧ At w 4 a3 ∧ a0 ≠ a1 ∧ a0 ≠ a2 ∧ a0 ≠ a3 ∧ a1 ≠ a2 ∧ a1 ≠ a3 ∧ a2 ≠ a3
theorem Four.later {w w' : World} {a0 a1 a2 a3 : Addr} (h : Four w a0 a1 a2 a3) (b : Below w.heap.size w w') : Four w' a0 a1 a2 a3 := by
 obtain ⟨h0, h1, h2, h3, hn⟩ := h
 exact ⟨h0.later b, h1.later b, h2.later b, h3.later b, hn⟩
abbrev refV (n : Int) (r : ByteArray) (a : Addr) : Value := .iface 189 (.agg #[.int .i64 n, .string r, .iface 225 (.pointer (some a))])
theorem At.is_other {w : World} {g g' : Nat} {a b : Addr} (n : Int) (r : ByteArray) (ha : At w g a) (hb : At w g' b) (hne : a ≠ b) :
  Calls Tryz.prog 171 #[refV n r a, .iface 225 (.pointer (some b))] w fun e w' => e = .returned (.bool false) ∧ Below w.heap.size w w' := by
 obtain ⟨_, ca, ta, h1⟩ := ha
 obtain ⟨_, cb, tb, h2⟩ := hb
 exact Is.is_other n r a b ca cb ta tb w hne h1 h2
set_option maxRecDepth 1000000 in
set_option maxHeartbeats 2000000 in
theorem code1 (w : World) (n : Int) (r : ByteArray) {a0 a1 a2 a3 : Addr} (h : Four w a0 a1 a2 a3) : Calls Tryz.prog 153 #[refV n r a0] w fun e w' => e = .returned (.int .i64 1) ∧ Below w.heap.size w w' := by
 obtain ⟨A0, A1, A2, A3, h01, h02, h03, h12, h13, h23⟩ := h
 have c0 := A0.1
 have B0 : Hid (Below w.heap.size w w) := Below.refl _ _
 have A0 : Hid (At w 1 a0) := A0
 have A1 : Hid (At w 2 a1) := A1
 have A2 : Hid (At w 3 a2) := A2
 have A3 : Hid (At w 4 a3) := A3
 have h01 : Hid (a0 ≠ a1) := h01
 have h02 : Hid (a0 ≠ a2) := h02
 have h03 : Hid (a0 ≠ a3) := h03
 have h12 : Hid (a1 ≠ a2) := h12
 have h13 : Hid (a1 ≠ a3) := h13
 have h23 : Hid (a2 ≠ a3) := h23
 go_enter Tryz.func153, Tryz.ntmps153
 go_wp2_with fail
 refine (is_same n r a0 w).mono ?_
 rintro e W1 ⟨rfl, b1⟩
 have B1 : Hid (Below w.heap.size w W1) := B0.out.trans (b1.mono B0.out.size)
 clear b1
 go_wp2
 go_ret
 exact ⟨rfl, B1.out⟩
set_option maxRecDepth 1000000 in
set_option maxHeartbeats 2000000 in
theorem code2 (w : World) (n : Int) (r : ByteArray) {a0 a1 a2 a3 : Addr} (h : Four w a0 a1 a2 a3) : Calls Tryz.prog 153 #[refV n r a1] w fun e w' => e = .returned (.int .i64 2) ∧ Below w.heap.size w w' := by
 obtain ⟨A0, A1, A2, A3, h01, h02, h03, h12, h13, h23⟩ := h
 have c0 := A0.1
 have c1 := A1.1
 have B0 : Hid (Below w.heap.size w w) := Below.refl _ _
 have A0 : Hid (At w 1 a0) := A0
 have A1 : Hid (At w 2 a1) := A1
 have A2 : Hid (At w 3 a2) := A2
 have A3 : Hid (At w 4 a3) := A3
 have h01 : Hid (a0 ≠ a1) := h01
 have h02 : Hid (a0 ≠ a2) := h02
 have h03 : Hid (a0 ≠ a3) := h03
 have h12 : Hid (a1 ≠ a2) := h12
 have h13 : Hid (a1 ≠ a3) := h13
 have h23 : Hid (a2 ≠ a3) := h23
 go_enter Tryz.func153, Tryz.ntmps153
 go_wp2_with fail
 refine (At.is_other (w := w) n r (A1.out.later B0.out) (A0.out.later B0.out) h01.out.symm).mono ?_
 rintro e W1 ⟨rfl, b1⟩
 have B1 : Hid (Below w.heap.size w W1) := B0.out.trans (b1.mono B0.out.size)
 have c1 : W1.cell? ⟨2, 0, none⟩ = some (.iface 225 (.pointer (some a1))) := (A1.out.later B1.out).1
 clear b1
 go_wp2_with fail
 refine (is_same n r a1 W1).mono ?_
 rintro e W2 ⟨rfl, b2⟩
 have B2 : Hid (Below w.heap.size w W2) := B1.out.trans (b2.mono B1.out.size)
 clear b2
 go_wp2
 go_ret
 exact ⟨rfl, B2.out⟩
set_option maxRecDepth 1000000 in
set_option maxHeartbeats 2000000 in
theorem code3 (w : World) (n : Int) (r : ByteArray) {a0 a1 a2 a3 : Addr} (h : Four w a0 a1 a2 a3) : Calls Tryz.prog 153 #[refV n r a2] w fun e w' => e = .returned (.int .i64 3) ∧ Below w.heap.size w w' := by
 obtain ⟨A0, A1, A2, A3, h01, h02, h03, h12, h13, h23⟩ := h
 have c0 := A0.1
 have c1 := A1.1
 have c2 := A2.1
 have B0 : Hid (Below w.heap.size w w) := Below.refl _ _
 have A0 : Hid (At w 1 a0) := A0
 have A1 : Hid (At w 2 a1) := A1
 have A2 : Hid (At w 3 a2) := A2
 have A3 : Hid (At w 4 a3) := A3
 have h01 : Hid (a0 ≠ a1) := h01
 have h02 : Hid (a0 ≠ a2) := h02
 have h03 : Hid (a0 ≠ a3) := h03
 have h12 : Hid (a1 ≠ a2) := h12
 have h13 : Hid (a1 ≠ a3) := h13
 have h23 : Hid (a2 ≠ a3) := h23
 go_enter Tryz.func153, Tryz.ntmps153
 go_wp2_with fail
 refine (At.is_other (w := w) n r (A2.out.later B0.out) (A0.out.later B0.out) h02.out.symm).mono ?_
 rintro e W1 ⟨rfl, b1⟩
 have B1 : Hid (Below w.heap.size w W1) := B0.out.trans (b1.mono B0.out.size)
 have c1 : W1.cell? ⟨2, 0, none⟩ = some (.iface 225 (.pointer (some a1))) := (A1.out.later B1.out).1
 have c2 : W1.cell? ⟨3, 0, none⟩ = some (.iface 225 (.pointer (some a2))) := (A2.out.later B1.out).1
 clear b1
 go_wp2_with fail
 refine (At.is_other (w := W1) n r (A2.out.later B1.out) (A1.out.later B1.out) h12.out.symm).mono ?_
 rintro e W2 ⟨rfl, b2⟩
 have B2 : Hid (Below w.heap.size w W2) := B1.out.trans (b2.mono B1.out.size)
 have c2 : W2.cell? ⟨3, 0, none⟩ = some (.iface 225 (.pointer (some a2))) := (A2.out.later B2.out).1
 clear b2
 go_wp2_with fail
 refine (is_same n r a2 W2).mono ?_
 rintro e W3 ⟨rfl, b3⟩
 have B3 : Hid (Below w.heap.size w W3) := B2.out.trans (b3.mono B2.out.size)
 clear b3
 go_wp2
 go_ret
 exact ⟨rfl, B3.out⟩
set_option maxRecDepth 1000000 in
set_option maxHeartbeats 2000000 in
theorem code4 (w : World) (n : Int) (r : ByteArray) {a0 a1 a2 a3 : Addr} (h : Four w a0 a1 a2 a3) : Calls Tryz.prog 153 #[refV n r a3] w fun e w' => e = .returned (.int .i64 4) ∧ Below w.heap.size w w' := by
 obtain ⟨A0, A1, A2, A3, h01, h02, h03, h12, h13, h23⟩ := h
 have c0 := A0.1
 have c1 := A1.1
 have c2 := A2.1
 have c3 := A3.1
 have B0 : Hid (Below w.heap.size w w) := Below.refl _ _
 have A0 : Hid (At w 1 a0) := A0
 have A1 : Hid (At w 2 a1) := A1
 have A2 : Hid (At w 3 a2) := A2
 have A3 : Hid (At w 4 a3) := A3
 have h01 : Hid (a0 ≠ a1) := h01
 have h02 : Hid (a0 ≠ a2) := h02
 have h03 : Hid (a0 ≠ a3) := h03
 have h12 : Hid (a1 ≠ a2) := h12
 have h13 : Hid (a1 ≠ a3) := h13
 have h23 : Hid (a2 ≠ a3) := h23
 go_enter Tryz.func153, Tryz.ntmps153
 go_wp2_with fail
 refine (At.is_other (w := w) n r (A3.out.later B0.out) (A0.out.later B0.out) h03.out.symm).mono ?_
 rintro e W1 ⟨rfl, b1⟩
 have B1 : Hid (Below w.heap.size w W1) := B0.out.trans (b1.mono B0.out.size)
 have c1 : W1.cell? ⟨2, 0, none⟩ = some (.iface 225 (.pointer (some a1))) := (A1.out.later B1.out).1
 have c2 : W1.cell? ⟨3, 0, none⟩ = some (.iface 225 (.pointer (some a2))) := (A2.out.later B1.out).1
 have c3 : W1.cell? ⟨4, 0, none⟩ = some (.iface 225 (.pointer (some a3))) := (A3.out.later B1.out).1
 clear b1
 go_wp2_with fail
 refine (At.is_other (w := W1) n r (A3.out.later B1.out) (A1.out.later B1.out) h13.out.symm).mono ?_
 rintro e W2 ⟨rfl, b2⟩
 have B2 : Hid (Below w.heap.size w W2) := B1.out.trans (b2.mono B1.out.size)
 have c2 : W2.cell? ⟨3, 0, none⟩ = some (.iface 225 (.pointer (some a2))) := (A2.out.later B2.out).1
 have c3 : W2.cell? ⟨4, 0, none⟩ = some (.iface 225 (.pointer (some a3))) := (A3.out.later B2.out).1
 clear b2
 go_wp2_with fail
 refine (At.is_other (w := W2) n r (A3.out.later B2.out) (A2.out.later B2.out) h23.out.symm).mono ?_
 rintro e W3 ⟨rfl, b3⟩
 have B3 : Hid (Below w.heap.size w W3) := B2.out.trans (b3.mono B2.out.size)
 have c3 : W3.cell? ⟨4, 0, none⟩ = some (.iface 225 (.pointer (some a3))) := (A3.out.later B3.out).1
 clear b3
 go_wp2_with fail
 refine (is_same n r a3 W3).mono ?_
 rintro e W4 ⟨rfl, b4⟩
 have B4 : Hid (Below w.heap.size w W4) := B3.out.trans (b4.mono B3.out.size)
 clear b4
 go_wp2
 go_ret
 exact ⟨rfl, B4.out⟩
set_option maxRecDepth 1000000 in
set_option maxHeartbeats 2000000 in
theorem code0 (w : World) {a0 a1 a2 a3 : Addr} (h : Four w a0 a1 a2 a3) : Calls Tryz.prog 153 #[.nilIface] w fun e w' => e = .returned (.int .i64 0) ∧ Below w.heap.size w w' := by
 obtain ⟨A0, A1, A2, A3, h01, h02, h03, h12, h13, h23⟩ := h
 have c0 := A0.1
 have c1 := A1.1
 have c2 := A2.1
 have c3 := A3.1
 have B0 : Hid (Below w.heap.size w w) := Below.refl _ _
 have A0 : Hid (At w 1 a0) := A0
 have A1 : Hid (At w 2 a1) := A1
 have A2 : Hid (At w 3 a2) := A2
 have A3 : Hid (At w 4 a3) := A3
 have h01 : Hid (a0 ≠ a1) := h01
 have h02 : Hid (a0 ≠ a2) := h02
 have h03 : Hid (a0 ≠ a3) := h03
 have h12 : Hid (a1 ≠ a2) := h12
 have h13 : Hid (a1 ≠ a3) := h13
 have h23 : Hid (a2 ≠ a3) := h23
 go_enter Tryz.func153, Tryz.ntmps153
 go_wp2_with fail
 refine (is_nil a0 w).mono ?_
 rintro e W1 ⟨rfl, b1⟩
 have B1 : Hid (Below w.heap.size w W1) := B0.out.trans (b1.mono B0.out.size)
 have c1 : W1.cell? ⟨2, 0, none⟩ = some (.iface 225 (.pointer (some a1))) := (A1.out.later B1.out).1
 have c2 : W1.cell? ⟨3, 0, none⟩ = some (.iface 225 (.pointer (some a2))) := (A2.out.later B1.out).1
 have c3 : W1.cell? ⟨4, 0, none⟩ = some (.iface 225 (.pointer (some a3))) := (A3.out.later B1.out).1
 clear b1
 go_wp2_with fail
 refine (is_nil a1 W1).mono ?_
 rintro e W2 ⟨rfl, b2⟩
 have B2 : Hid (Below w.heap.size w W2) := B1.out.trans (b2.mono B1.out.size)
 have c2 : W2.cell? ⟨3, 0, none⟩ = some (.iface 225 (.pointer (some a2))) := (A2.out.later B2.out).1
 have c3 : W2.cell? ⟨4, 0, none⟩ = some (.iface 225 (.pointer (some a3))) := (A3.out.later B2.out).1
 clear b2
 go_wp2_with fail
 refine (is_nil a2 W2).mono ?_
 rintro e W3 ⟨rfl, b3⟩
 have B3 : Hid (Below w.heap.size w W3) := B2.out.trans (b3.mono B2.out.size)
 have c3 : W3.cell? ⟨4, 0, none⟩ = some (.iface 225 (.pointer (some a3))) := (A3.out.later B3.out).1
 clear b3
 go_wp2_with fail
 refine (is_nil a3 W3).mono ?_
 rintro e W4 ⟨rfl, b4⟩
 have B4 : Hid (Below w.heap.size w W4) := B3.out.trans (b4.mono B3.out.size)
 clear b4
 go_wp2
 go_ret
 exact ⟨rfl, B4.out⟩
end Go.Proofs.YtchonoonclllbabGreatDoor.Is
