/- Texts in one: KpK, KpT. -/
import Derived.Test.YtfpaichdkddglaaGreatDoorPk24
import Derived.Test.YtfpaichdkddglaaGreatDoorPk14
import Derived.Test.YtfpaichdkddglaaGreatDoorPk7
import Derived.Lib.MinMax
namespace Go.Proofs.YtfpaichdkddglaaGreatDoor.Sr
open Go.RowKit Go.Proofs.YtfpaichdkddglaaGreatDoor.Mem Go.Proofs.YtfpaichdkddglaaGreatDoor.Laws Go.Proofs.YtfpaichdkddglaaGreatDoor.Bytes Go.Proofs.YtfpaichdkddglaaGreatDoor.Sha Go.Proofs.YtfpaichdkddglaaGreatDoor.Tr Go.Proofs.YtfpaichdkddglaaGreatDoor.He Go.Proofs.YtfpaichdkddglaaGreatDoor.Lg
set_option linter.unusedVariables false
set_option linter.unusedSimpArgs false
theorem slAllocK (w : World) (cs : List Value) (t : TypeId) : Sl (w.alloc (.cells cs.toArray t)) (.slice (some ⟨w.heap.size, 0, none⟩) cs.length cs.length) cs := by
 refine ⟨_, _, rfl, Nat.le_refl _, fun h => by simp at h, fun _ => ⟨w.heap.size, 0, rfl, fun j hj => ?_⟩⟩
 rw [Nat.zero_add, cell_of_row _ w.heap.size j cs.toArray t (0, 0) (heap_alloc_new w _)]
 simp
theorem part1K {W : World} {a : Value} {p : List Int} (h : Sl W a (bs p)) : ∀ (i : Nat) (v : Value) (q : List Int), [a][i]? = some v → [p][i]? = some q → Sl W v (bs q) := by
 intro i v q h1 h2
 match i with
 | 0 => simp at h1 h2; rw [← h1, ← h2]; exact h
 | i + 1 => simp at h1
set_option maxRecDepth 1000000 in
set_option maxHeartbeats 4000000 in
theorem fall_impl (w : World) (v vb : Value) (l : List ByteArray) (h : Hd) (b : List Int) (s keep : Int) (hs : Sl w v (ss l)) (hb : Sl w vb (bs b)) (hbl : b.length ≤ 1000000000) (hs1 : -9223372036854775808 ≤ s) (hs2 : s ≤ 9223372036854775807) (hk1 : -9223372036854775808 ≤ keep) (hk2 : keep ≤ 9223372036854775807) :
  Calls Tryz.prog 21 #[.agg #[v, .int .i64 h.n, .string h.r, vb, .int .i64 s], .int .i64 keep] w fun e w' => ∃ v', e = .returned v' ∧ Own w' w.heap.size w'.heap.size 5 v' (bs (b.take (fallN ⟨l, h, b, s⟩ keep))) ∧ Below w.heap.size w w' := by
 have HSB : Hid (Sl w vb (bs b)) := hb
 obtain ⟨ao0, cap0, rfl, hc0⟩ := hs.form
 obtain ⟨ao1, cap1, rfl, hc1⟩ := hb.form
 simp only [ss_len, bs_len] at *
 clear hs hb
 obtain ⟨K, hK⟩ : ∃ K, fallN ⟨l, h, b, s⟩ keep = K := ⟨_, rfl⟩
 rw [hK]
 unfold fallN at hK
 simp only at hK
 have B0 : Hid (Below w.heap.size w w) := Below.refl _ _
 obtain ⟨W1, HW1, b1, y1, hS1, r_a1⟩ : ∃ X, Hid ((w.alloc (.cells #[.slice ao0 l.length cap0, .int .i64 h.n, .string h.r, .slice ao1 b.length cap1, .int .i64 s] 37)) = X) ∧ Below w.heap.size w X ∧ w.heap.size + 1 ≤ X.heap.size ∧ Hid (X.heap.size = w.heap.size + 1) ∧ Hid (X.heap[w.heap.size]? = some (.cells #[.slice ao0 l.length cap0, .int .i64 h.n, .string h.r, .slice ao1 b.length cap1, .int .i64 s] 37 (0, 0))) := ⟨_, rfl, ((Below.refl _ _).alloc (Nat.le_refl _) _), by simp, by show _ = _; simp, (by show _ = _; exact alloc_nth1_0 w _)⟩
 have z1 : w.heap.size ≤ W1.heap.size := b1.size
 have B1 : Hid (Below w.heap.size w W1) := B0.out.trans (b1.mono B0.out.size)
 have c_a1_0 : W1.cell? ⟨w.heap.size, 0, none⟩ = some (.slice ao0 l.length cap0) := row_at r_a1.out 0
 have c_a1_1 : W1.cell? ⟨w.heap.size, 1, none⟩ = some (.int .i64 h.n) := row_at r_a1.out 1
 have c_a1_2 : W1.cell? ⟨w.heap.size, 2, none⟩ = some (.string h.r) := row_at r_a1.out 2
 have c_a1_3 : W1.cell? ⟨w.heap.size, 3, none⟩ = some (.slice ao1 b.length cap1) := row_at r_a1.out 3
 have c_a1_4 : W1.cell? ⟨w.heap.size, 4, none⟩ = some (.int .i64 s) := row_at r_a1.out 4
 have hKK : K = ((min (max s 0) (b.length : Int)) + min (max keep 0) ((b.length : Int) - (min (max s 0) (b.length : Int)))).toNat := by omega
 have HKK : Hid (K = ((min (max s 0) (b.length : Int)) + min (max keep 0) ((b.length : Int) - (min (max s 0) (b.length : Int)))).toNat) := hKK
 have hKb : ((min (max s 0) (b.length : Int)) + min (max keep 0) ((b.length : Int) - (min (max s 0) (b.length : Int)))).toNat ≤ b.length := by omega
 have w1 : IntKind.i64.wrap ((b.length : Int) - (min (max s 0) (b.length : Int))) = (b.length : Int) - (min (max s 0) (b.length : Int)) := by rw [IntKind.wrap_i64]; omega
 have w2 : IntKind.i64.wrap ((min (max s 0) (b.length : Int)) + min (max keep 0) ((b.length : Int) - (min (max s 0) (b.length : Int)))) = ((min (max s 0) (b.length : Int)) + min (max keep 0) ((b.length : Int) - (min (max s 0) (b.length : Int)))) := by rw [IntKind.wrap_i64]; omega
 have h1 : ((min (max s 0) (b.length : Int)) + min (max keep 0) ((b.length : Int) - (min (max s 0) (b.length : Int)))) ≤ (cap1 : Int) := by omega
 have h2 : 0 ≤ ((min (max s 0) (b.length : Int)) + min (max keep 0) ((b.length : Int) - (min (max s 0) (b.length : Int)))) := by omega
 have h3 : ¬ ((min (max s 0) (b.length : Int)) + min (max keep 0) ((b.length : Int) - (min (max s 0) (b.length : Int)))) < 0 := by omega
 have h4 : ¬ (cap1 : Int) < ((min (max s 0) (b.length : Int)) + min (max keep 0) ((b.length : Int) - (min (max s 0) (b.length : Int)))) := by omega
 clear hKK hK
 have HSK : Hid (∀ W, Below w.heap.size w W → Sl W (.slice ao1 ((min (max s 0) (b.length : Int)) + min (max keep 0) ((b.length : Int) - (min (max s 0) (b.length : Int)))).toNat cap1) (bs (b.take ((min (max s 0) (b.length : Int)) + min (max keep 0) ((b.length : Int) - (min (max s 0) (b.length : Int)))).toNat))) := by
  intro W hW
  have h9 := Sl.front (HSB.out.later hW) ((min (max s 0) (b.length : Int)) + min (max keep 0) ((b.length : Int) - (min (max s 0) (b.length : Int)))).toNat (by rw [bs_len]; omega)
  have e9 : bs (b.take ((min (max s 0) (b.length : Int)) + min (max keep 0) ((b.length : Int) - (min (max s 0) (b.length : Int)))).toNat) = (bs b).take ((min (max s 0) (b.length : Int)) + min (max keep 0) ((b.length : Int) - (min (max s 0) (b.length : Int)))).toNat := by { unfold bs; rw [List.map_take] }
  rw [e9]
  exact h9
 go_enter Tryz.func21, Tryz.ntmps21
 have a_a1_0 : ∀ o, (W1.alloc o).cell? ⟨w.heap.size, 0, none⟩ = some (.slice ao0 l.length cap0) := fun o => keepR c_a1_0 ((Below.refl _ _).alloc (Nat.le_refl _) o)
 have a_a1_1 : ∀ o, (W1.alloc o).cell? ⟨w.heap.size, 1, none⟩ = some (.int .i64 h.n) := fun o => keepR c_a1_1 ((Below.refl _ _).alloc (Nat.le_refl _) o)
 have a_a1_2 : ∀ o, (W1.alloc o).cell? ⟨w.heap.size, 2, none⟩ = some (.string h.r) := fun o => keepR c_a1_2 ((Below.refl _ _).alloc (Nat.le_refl _) o)
 have a_a1_3 : ∀ o, (W1.alloc o).cell? ⟨w.heap.size, 3, none⟩ = some (.slice ao1 b.length cap1) := fun o => keepR c_a1_3 ((Below.refl _ _).alloc (Nat.le_refl _) o)
 have a_a1_4 : ∀ o, (W1.alloc o).cell? ⟨w.heap.size, 4, none⟩ = some (.int .i64 s) := fun o => keepR c_a1_4 ((Below.refl _ _).alloc (Nat.le_refl _) o)
 obtain ⟨W2, HW2, b2, ff2⟩ : ∃ X, Hid ((W1.alloc (.cells #[.slice ao1 ((min (max s 0) (b.length : Int)) + min (max keep 0) ((b.length : Int) - (min (max s 0) (b.length : Int)))).toNat cap1] 22)) = X) ∧ Below W1.heap.size W1 X ∧ Hid (Sl X (.slice (some ⟨W1.heap.size, 0, none⟩) 1 1) [.slice ao1 ((min (max s 0) (b.length : Int)) + min (max keep 0) ((b.length : Int) - (min (max s 0) (b.length : Int)))).toNat cap1]) := ⟨_, rfl, (Below.refl _ _).alloc (Nat.le_refl _) _, slAllocK W1 [.slice ao1 ((min (max s 0) (b.length : Int)) + min (max keep 0) ((b.length : Int) - (min (max s 0) (b.length : Int)))).toNat cap1] 22⟩
 have ff2 : Hid (Sl W2 (.slice (some ⟨w.heap.size + 1, 0, none⟩) 1 1) [.slice ao1 ((min (max s 0) (b.length : Int)) + min (max keep 0) ((b.length : Int) - (min (max s 0) (b.length : Int)))).toNat cap1]) := by show Sl _ _ _; have h9 := ff2.out; rw [hS1.out] at h9; exact h9
 have z2 : W1.heap.size ≤ W2.heap.size := b2.size
 have B2 : Hid (Below w.heap.size w W2) := B1.out.trans (b2.mono B1.out.size)
 have r_a2 : Hid (W2.heap[w.heap.size]? = some (.cells #[.slice ao0 l.length cap0, .int .i64 h.n, .string h.r, .slice ao1 b.length cap1, .int .i64 s] 37 (0, 0))) := rowKeep r_a1.out b2
 have c_a2_0 : W2.cell? ⟨w.heap.size, 0, none⟩ = some (.slice ao0 l.length cap0) := row_at r_a2.out 0
 have c_a2_1 : W2.cell? ⟨w.heap.size, 1, none⟩ = some (.int .i64 h.n) := row_at r_a2.out 1
 have c_a2_2 : W2.cell? ⟨w.heap.size, 2, none⟩ = some (.string h.r) := row_at r_a2.out 2
 have c_a2_3 : W2.cell? ⟨w.heap.size, 3, none⟩ = some (.slice ao1 b.length cap1) := row_at r_a2.out 3
 have c_a2_4 : W2.cell? ⟨w.heap.size, 4, none⟩ = some (.int .i64 s) := row_at r_a2.out 4
 clear r_a1 c_a1_0 c_a1_1 c_a1_2 c_a1_3 c_a1_4
 have qj := joined_impl W2 _ _ [b.take ((min (max s 0) (b.length : Int)) + min (max keep 0) ((b.length : Int) - (min (max s 0) (b.length : Int)))).toNat] ff2.out rfl (part1K (HSK.out _ B2.out)) (by simp) (by simp <;> omega)
 have e9 : [b.take ((min (max s 0) (b.length : Int)) + min (max keep 0) ((b.length : Int) - (min (max s 0) (b.length : Int)))).toNat].flatten = b.take ((min (max s 0) (b.length : Int)) + min (max keep 0) ((b.length : Int) - (min (max s 0) (b.length : Int)))).toNat := by simp
 rw [e9] at qj
 clear e9
 go_wp2_with fail
 rw [HW1.out, HW2.out]
 clear a_a1_0 a_a1_1 a_a1_2 a_a1_3 a_a1_4
 refine (qj).mono ?_
 rintro e W3 ⟨v_z, rfl, o_z3, b3⟩
 obtain ⟨ao_z, L_z, cap_z, rfl, hL_z, hM_z⟩ := o_z3.form
 have o_z3 : Hid (Own W3 W2.heap.size W3.heap.size 5 (.slice ao_z L_z cap_z) (bs (b.take ((min (max s 0) (b.length : Int)) + min (max keep 0) ((b.length : Int) - (min (max s 0) (b.length : Int)))).toNat))) := o_z3
 clear hL_z hM_z
 have z3 : W2.heap.size ≤ W3.heap.size := b3.size
 have B3 : Hid (Below w.heap.size w W3) := B2.out.trans (b3.mono B2.out.size)
 have r_a3 : Hid (W3.heap[w.heap.size]? = some (.cells #[.slice ao0 l.length cap0, .int .i64 h.n, .string h.r, .slice ao1 b.length cap1, .int .i64 s] 37 (0, 0))) := rowKeep r_a2.out b3
 have c_a3_0 : W3.cell? ⟨w.heap.size, 0, none⟩ = some (.slice ao0 l.length cap0) := row_at r_a3.out 0
 have c_a3_1 : W3.cell? ⟨w.heap.size, 1, none⟩ = some (.int .i64 h.n) := row_at r_a3.out 1
 have c_a3_2 : W3.cell? ⟨w.heap.size, 2, none⟩ = some (.string h.r) := row_at r_a3.out 2
 have c_a3_3 : W3.cell? ⟨w.heap.size, 3, none⟩ = some (.slice ao1 b.length cap1) := row_at r_a3.out 3
 have c_a3_4 : W3.cell? ⟨w.heap.size, 4, none⟩ = some (.int .i64 s) := row_at r_a3.out 4
 clear r_a2 c_a2_0 c_a2_1 c_a2_2 c_a2_3 c_a2_4
 go_wp2
 go_ret
 refine ⟨_, rfl, ?_, B3.out⟩
 rw [HKK.out]
 exact Own.mono o_z3.out (by omega) (Nat.le_refl _)
end Go.Proofs.YtfpaichdkddglaaGreatDoor.Sr
namespace Go.Proofs.YtfpaichdkddglaaGreatDoor.Sr
set_option linter.unusedVariables false
theorem tot_leN (N : Nat) : ∀ l : List ByteArray, (∀ s ∈ l, s.size ≤ N) → Puts.tot l ≤ l.length * N := by
 intro l
 induction l with
 | nil => intro _; exact Nat.zero_le _
 | cons a r ih =>
  intro hl
  have h1 := hl a (List.mem_cons_self ..)
  have h2 := ih (fun s hs => hl s (List.mem_cons_of_mem _ hs))
  simp only [Puts.tot, List.length_cons]
  rw [Nat.add_mul]
  omega
theorem tot_le1000 (l : List ByteArray) (hl : l.length ≤ 1000) (h : ∀ s ∈ l, s.size ≤ 1000) : Puts.tot l ≤ 1000000 := by
 have h1 := tot_leN 1000 l h
 omega
end Go.Proofs.YtfpaichdkddglaaGreatDoor.Sr
