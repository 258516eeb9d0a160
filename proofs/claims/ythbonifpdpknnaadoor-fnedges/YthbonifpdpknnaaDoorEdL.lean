/- Chapter 7: the law FnEdges, over contracts of the landed functions. -/
import Derived.Test.YthbonifpdpknnaaDoorTrL
import Derived.Test.YthbonifpdpknnaaDoorEd2
namespace Go.Proofs.YthbonifpdpknnaaDoor.Ed
open Go.RowKit Go.Proofs.YthbonifpdpknnaaDoor.Mem Go.Proofs.YthbonifpdpknnaaDoor.Laws Go.Proofs.YthbonifpdpknnaaDoor.Bytes Go.Proofs.YthbonifpdpknnaaDoor.Sha Go.Proofs.YthbonifpdpknnaaDoor.Tr Go.Proofs.YthbonifpdpknnaaDoor.Draw
set_option linter.unusedVariables false
set_option linter.unusedSimpArgs false

theorem edgeOf_small {l : List ByteArray} (h : l.length ≤ 200) : edgeOf l = (l.length, edge l) := by unfold edgeOf; rw [if_pos h]

set_option maxRecDepth 1000000 in
set_option maxHeartbeats 16000000 in
theorem edges7 (w : World) (v0 : Value) (xs0 : List Int) (h0 : Sl w v0 (bs xs0)) (y0 : Byt xs0) (m0 : xs0.length ≤ maxLen)
    (iOf : ∀ W, Below w.heap.size w W → ∀ (v' : Value) (l : List ByteArray), Sl W v' (ss l) → l.length ≤ 1000 → (∀ s ∈ l, s.size ≤ 1000) → Calls Tryd.prog 18 #[v'] W fun e w' => ∃ v'', e = .returned (.agg #[.int .i64 ((edgeOf l).1 : Int), v'']) ∧ Own w' W.heap.size w'.heap.size 9 v'' (ss (edgeOf l).2) ∧ Below W.heap.size W w')
    (iAll : ∀ W, Below w.heap.size w W → ∀ (v' vl' : Value) (n : Int) (hs l : List ByteArray), Sl W v' (ss hs) → Sl W vl' (ss l) → hs.length ≤ 1000 → (∀ s ∈ hs, s.size ≤ 1000) → l.length ≤ 1000 → (∀ s ∈ l, s.size ≤ 1000) → Calls Tryd.prog 19 #[.agg #[.int .i64 n, v'], vl'] W fun e w' => ∃ v'', e = .returned (.tuple #[.agg #[.int .i64 (allE n hs l).1, v''], .bool (allE n hs l).2.2]) ∧ Own w' W.heap.size w'.heap.size 9 v'' (ss (allE n hs l).2.1) ∧ Below W.heap.size W w')
    (iAdd : ∀ W, Below w.heap.size w W → ∀ (v' : Value) (n : Int) (hs : List ByteArray) (s : ByteArray), Sl W v' (ss hs) → hs.length ≤ 1000 → (∀ s ∈ hs, s.size ≤ 1000) → s.size ≤ 1000 → Calls Tryd.prog 20 #[.agg #[.int .i64 n, v'], .string s] W fun e w' => ∃ v'', e = .returned (.tuple #[.agg #[.int .i64 (addE n hs s).1, v''], .bool (addE n hs s).2.2]) ∧ Own w' W.heap.size w'.heap.size 9 v'' (ss (addE n hs s).2.1) ∧ Below W.heap.size W w')
    (iOk : ∀ W, Below w.heap.size w W → ∀ (v' : Value) (n : Int) (hs : List ByteArray), Sl W v' (ss hs) → hs.length ≤ 1000 → (∀ s ∈ hs, s.size ≤ 1000) → Calls Tryd.prog 21 #[.agg #[.int .i64 n, v']] W fun e w' => e = .returned (.bool (okE n hs)) ∧ Below W.heap.size W w')
    (iER : ∀ W, Below w.heap.size w W → ∀ (v' : Value) (n : Int) (hs : List ByteArray), Sl W v' (ss hs) → hs.length ≤ 1000 → (∀ s ∈ hs, s.size ≤ 1000) → Calls Tryd.prog 22 #[.agg #[.int .i64 n, v']] W fun e w' => e = .returned (.string (rootE n hs)) ∧ Below W.heap.size W w')
    (iRoot : ∀ W, Below w.heap.size w W → ∀ (v' : Value) (l : List ByteArray), Sl W v' (ss l) → l.length ≤ 1000 → (∀ s ∈ l, s.size ≤ 1000) → Calls Tryd.prog 12 #[v'] W fun e w' => e = .returned (.string (rootOf l)) ∧ Below W.heap.size W w') :
    Calls Tryd.prog 6 #[v0] w fun e w' => e = .returned (.bool true) ∧ Below w.heap.size w w' := by
  obtain ⟨i0, hi, hz0, hz1, hz2⟩ := info_parts info9t
  have hs := h0
  have hby := y0
  obtain ⟨ao0, cap0, rfl, -, -, -⟩ := h0
  rw [Mem.bs_len] at hs ⊢
  clear m0 y0
  by_cases hbig : 1048576 < xs0.length
  · have qb := big_yes w ao0 xs0.length cap0 hbig
    clear iOf iAll iAdd iOk iER iRoot
    go_enter Tryd.func6, Tryd.ntmps6
    go_wp2_with fail
    refine qb.mono ?_
    rintro e w1 ⟨rfl, rfl⟩
    go_wp2
    go_ret
    exact ⟨rfl, Below.refl _ _⟩
  have qb := big_no w ao0 xs0.length cap0 hbig
  have qd := leaves_any w _ xs0 hs hby (by omega)
  clear hbig hs hby
  go_enter Tryd.func6, Tryd.ntmps6
  go_wp2_with fail
  refine qb.mono ?_
  rintro e w1 ⟨rfl, rfl⟩
  go_wp2_with fail
  refine qd.mono ?_
  rintro e W1 ⟨v1, l, i, rfl, hl1, hl9, hil, hz, o1, b1⟩
  clear qb qd
  obtain ⟨b, off, cap, rfl, hcap⟩ := slForm o1.sl (by rw [ss_len]; omega)
  rw [ss_len] at *
  have HZ : Hid (∀ s ∈ l, s.size ≤ 1000) := fun s hs => by have := hz s hs; omega
  have e8 : (edge l).length ≤ 8 := by rw [edge_len]; exact popc_le ⟨l.length, by omega⟩
  have HE : ∀ t : List ByteArray, t.length ≤ 200 → (edge t).length ≤ 8 := fun t ht => by rw [edge_len]; exact popc_le ⟨t.length, by omega⟩
  have HEs : ∀ t : List ByteArray, ∀ s ∈ edge t, s.size ≤ 1000 := fun t s hs => by rw [edge_sizes t s hs]; omega
  have s1 := o1.sl
  have sP : ∀ W, Below W1.heap.size W1 W → Sl W (.slice (some ⟨b, off, none⟩) i cap) (ss (l.take i)) := fun W hW => by rw [← ss_take]; exact ((s1.later hW).front i (by rw [ss_len]; omega))
  have sD : ∀ W, Below W1.heap.size W1 W → Sl W (.slice (some ⟨b, off + i, none⟩) (l.length - i) (cap - i)) (ss (l.drop i)) := fun W hW => by rw [← ss_drop]; exact slBack (s1.later hW) i (by rw [ss_len]; omega)
  have lT : (l.take i).length = i := by rw [List.length_take]; omega
  have lD : (l.drop i).length = l.length - i := by rw [List.length_drop]
  have zT : ∀ s ∈ l.take i, s.size ≤ 1000 := fun s hs => HZ.out s (List.mem_of_mem_take hs)
  have zD : ∀ s ∈ l.drop i, s.size ≤ 1000 := fun s hs => HZ.out s (List.mem_of_mem_drop hs)
  have qO : ∀ W v', Below w.heap.size w W → Sl W v' (ss l) → _ := fun W v' hB hs => iOf W hB v' l hs (by omega) HZ.out
  rw [edgeOf_small (by omega)] at qO
  have qP : ∀ W v', Below w.heap.size w W → Sl W v' (ss (l.take i)) → _ := fun W v' hB hs => iOf W hB v' (l.take i) hs (by omega) zT
  rw [edgeOf_small (by omega), lT] at qP
  have qL : ∀ W v' vl', Below w.heap.size w W → Sl W v' (ss (edge (l.take i))) → Sl W vl' (ss (l.drop i)) → _ := fun W v' vl' hB h1 h2 => iAll W hB v' vl' ((l.take i).length : Int) (edge (l.take i)) (l.drop i) h1 h2 (by have := HE (l.take i) (by omega); omega) (HEs _) (by omega) zD
  rw [allE_edge (by omega), List.take_append_drop, lT] at qL
  have hxz : ∀ s ∈ l ++ [⟨#[120]⟩], s.size ≤ 1000 := by
    intro s hs
    rcases List.mem_append.1 hs with hs | hs
    · exact HZ.out s hs
    · simp at hs; rw [hs]; decide
  have lX : (l ++ [(⟨#[120]⟩ : ByteArray)]).length = l.length + 1 := by simp
  have qA : ∀ W v', Below w.heap.size w W → Sl W v' (ss (edge l)) → _ := fun W v' hB hs => iAdd W hB v' (l.length : Int) (edge l) ⟨#[120]⟩ hs (by omega) (HEs l) (by decide)
  rw [addE_edge (by omega)] at qA
  have qK : ∀ W v', Below w.heap.size w W → Sl W v' (ss (edge l)) → _ := fun W v' hB hs => iOk W hB v' (l.length : Int) (edge l) hs (by omega) (HEs l)
  rw [okE_edge (by omega)] at qK
  have qR1 : ∀ W v', Below w.heap.size w W → Sl W v' (ss (edge l)) → _ := fun W v' hB hs => iER W hB v' (l.length : Int) (edge l) hs (by omega) (HEs l)
  rw [rootE_edge (by omega)] at qR1
  have qR0 : ∀ W v', Below w.heap.size w W → Sl W v' (ss l) → _ := fun W v' hB hs => iRoot W hB v' l hs (by omega) HZ.out
  rw [rootOf_small (by omega)] at qR0
  have qR2 : ∀ W v', Below w.heap.size w W → Sl W v' (ss (edge (l ++ [⟨#[120]⟩]))) → _ := fun W v' hB hs => iER W hB v' ((l ++ [(⟨#[120]⟩ : ByteArray)]).length : Int) (edge (l ++ [⟨#[120]⟩])) hs (by have := HE (l ++ [⟨#[120]⟩]) (by omega); omega) (HEs _)
  rw [rootE_edge (by omega)] at qR2
  have qRz : ∀ W v', Below w.heap.size w W → Sl W v' (ss (l ++ [⟨#[120]⟩])) → _ := fun W v' hB hs => iRoot W hB v' (l ++ [⟨#[120]⟩]) hs (by omega) hxz
  rw [rootOf_small (by omega)] at qRz
  obtain ⟨r1, hr1⟩ : ∃ r1, root l = r1 := ⟨_, rfl⟩
  obtain ⟨r2, hr2⟩ : ∃ r2, root (l ++ [⟨#[120]⟩]) = r2 := ⟨_, rfl⟩
  obtain ⟨E2, hE2⟩ : ∃ E2, edge (l ++ [⟨#[120]⟩]) = E2 := ⟨_, rfl⟩
  obtain ⟨n2, hn2⟩ : ∃ n2 : Int, ((l ++ [(⟨#[120]⟩ : ByteArray)]).length : Int) = n2 := ⟨_, rfl⟩
  simp only [hr1] at qR1 qR0
  simp only [hE2, hn2] at qA
  simp only [hE2, hn2, hr2] at qR2
  simp only [hr2] at qRz
  have nr1 : (r1.toList != r1.toList) = false := by simp
  have nr2 : (r2.toList == r2.toList) = true := by simp
  have nl : ((l.length : Int) != (l.length : Int)) = false := by simp
  have v1 : (i : Int) ≤ (l.length : Int) := by omega
  have v2 : (i : Int) ≤ (cap : Int) := by omega
  have v3 : (l.length : Int) ≤ (cap : Int) := by omega
  have vne : ¬ cap = i := by omega
  have c6 : (ss []).length + (ss l).length ≤ maxLen := by rw [ss_len, ss_len]; unfold maxLen; simp; omega
  have c7 : ((ss []).length + (ss l).length) * 16 ≤ 140737488355328 := by rw [ss_len, ss_len]; simp; omega
  have c8 : (ss l).length + 1 ≤ maxLen := by rw [ss_len]; unfold maxLen; omega
  have c9 : ((ss l).length + 1) * 16 ≤ 140737488355328 := by rw [ss_len]; omega
  clear hr1 hr2 hE2 hn2 lX lT lD zT zD HE HEs HZ hxz s1 hz iOf iAll iAdd iOk iER iRoot
  have B1 : Hid (Below w.heap.size w W1) := b1
  have D1 : Hid (Below W1.heap.size W1 W1) := Below.refl _ _
  have z1 : w.heap.size ≤ W1.heap.size := b1.size
  have o_lv1 : Hid (Own W1 w.heap.size W1.heap.size 9 (.slice (some ⟨b, off, none⟩) l.length cap) (ss l)) := o1
  clear o1 b1
  go_wp2_with fail
  refine (qO W1 _ B1.out o_lv1.out.sl).mono ?_
  rintro e W2 ⟨v_ev, rfl, o_ev2, b2⟩
  obtain ⟨ao_ev, L_ev, cap_ev, rfl, hL_ev, hM_ev⟩ := o_ev2.form
  have o_ev2 : Hid (Own W2 W1.heap.size W2.heap.size 9 (.slice ao_ev L_ev cap_ev) (ss (edge l))) := o_ev2
  clear hL_ev hM_ev
  have z2 : W1.heap.size ≤ W2.heap.size := b2.size
  have B2 : Hid (Below w.heap.size w W2) := B1.out.trans (b2.mono B1.out.size)
  have o_lv2 : Hid (Own W2 (w.heap.size) (W1.heap.size) 9 (.slice (some ⟨b, off, none⟩) l.length cap) (ss l)) := Own.later o_lv1.out b2 (by omega)
  clear o_lv1
  have D2 : Hid (Below W1.heap.size W1 W2) := D1.out.trans (b2.mono D1.out.size)
  obtain ⟨W3, HW3, b3, y3, r_e3⟩ : ∃ X, Hid ((W2.alloc (.cells #[.int .i64 (l.length : Int), .slice ao_ev L_ev cap_ev] 34)) = X) ∧ Below W2.heap.size W2 X ∧ W2.heap.size + 1 ≤ X.heap.size ∧ Hid (X.heap[W2.heap.size]? = some (.cells #[.int .i64 (l.length : Int), .slice ao_ev L_ev cap_ev] 34 (0, 0))) := ⟨_, rfl, (Below.refl _ _).alloc (Nat.le_refl _) _, by simp, heap_alloc_new _ _⟩
  have z3 : W2.heap.size ≤ W3.heap.size := b3.size
  have B3 : Hid (Below w.heap.size w W3) := B2.out.trans (b3.mono B2.out.size)
  have o_lv3 : Hid (Own W3 (w.heap.size) (W1.heap.size) 9 (.slice (some ⟨b, off, none⟩) l.length cap) (ss l)) := Own.later o_lv2.out b3 (by omega)
  have o_ev3 : Hid (Own W3 (W1.heap.size) (W2.heap.size) 9 (.slice ao_ev L_ev cap_ev) (ss (edge l))) := Own.later o_ev2.out b3 (by omega)
  have c_e3_0 : W3.cell? ⟨W2.heap.size, 0, none⟩ = some (.int .i64 (l.length : Int)) := row_at r_e3.out 0
  have a_e3_0 : ∀ o, (W3.alloc o).cell? ⟨W2.heap.size, 0, none⟩ = some (.int .i64 (l.length : Int)) := fun o => keepR c_e3_0 ((Below.refl _ _).alloc (Nat.le_refl _) o)
  have c_e3_1 : W3.cell? ⟨W2.heap.size, 1, none⟩ = some (.slice ao_ev L_ev cap_ev) := row_at r_e3.out 1
  have a_e3_1 : ∀ o, (W3.alloc o).cell? ⟨W2.heap.size, 1, none⟩ = some (.slice ao_ev L_ev cap_ev) := fun o => keepR c_e3_1 ((Below.refl _ _).alloc (Nat.le_refl _) o)
  clear o_lv2 o_ev2
  have D3 : Hid (Below W1.heap.size W1 W3) := D2.out.trans (b3.mono D2.out.size)
  go_wp2_with fail
  rw [HW3.out]
  refine wp_region_held_drew (S := fun _ => True) (by kernel_rfl) trivial (fun hHeld => ?_)
  (refine wpAnyH_take (i := 0) (v := ?v0x1) rfl (by kernel_rfl) (by kernel_rfl) (by kernel_rfl) (fun _ _ _ h => h) (Or.inl ⟨by rfl, ?hy0x1⟩) (by assumption) ?rest0x1; case hy0x1 => (intro w hSw; (try dsimp only at hSw); go_split_ands; go_simp; (try with_reducible rfl)))
  try simp only [Act.put, List.setIfInBounds_toArray, List.set_cons_zero, List.set_cons_succ, List.getElem_toArray, List.getElem_cons_zero, List.getElem_cons_succ]
  (refine wpAnyH_take (i := 1) (v := ?v1x2) rfl (by kernel_rfl) (by kernel_rfl) (by kernel_rfl) (fun _ _ _ h => h) (Or.inl ⟨by rfl, ?hy1x2⟩) (by assumption) ?rest1x2; case hy1x2 => (intro w hSw; (try dsimp only at hSw); go_split_ands; go_simp; (try with_reducible rfl)))
  try simp only [Act.put, List.setIfInBounds_toArray, List.set_cons_zero, List.set_cons_succ, List.getElem_toArray, List.getElem_cons_zero, List.getElem_cons_succ]
  (refine wpAnyH_take (i := 2) (v := ?v2x3) rfl (by kernel_rfl) (by kernel_rfl) (by kernel_rfl) (fun _ _ _ h => h) (Or.inl ⟨by rfl, ?hy2x3⟩) (by assumption) ?rest2x3; case hy2x3 => (intro w hSw; (try dsimp only at hSw); go_split_ands; go_simp; (try with_reducible rfl)))
  try simp only [Act.put, List.setIfInBounds_toArray, List.set_cons_zero, List.set_cons_succ, List.getElem_toArray, List.getElem_cons_zero, List.getElem_cons_succ]
  (refine wpAnyH_take (i := 4) (v := ?v4x4) rfl (by kernel_rfl) (by kernel_rfl) (by kernel_rfl) (fun _ _ _ h => h) (Or.inl ⟨by rfl, ?hy4x4⟩) (by assumption) ?rest4x4; case hy4x4 => (intro w hSw; (try dsimp only at hSw); go_split_ands; go_simp; (try with_reducible rfl)))
  try simp only [Act.put, List.setIfInBounds_toArray, List.set_cons_zero, List.set_cons_succ, List.getElem_toArray, List.getElem_cons_zero, List.getElem_cons_succ]
  (refine wpAnyH_take (i := 5) (v := ?v5x5) rfl (by kernel_rfl) (by kernel_rfl) (by kernel_rfl) (fun _ _ _ h => h) (Or.inl ⟨by rfl, ?hy5x5⟩) (by assumption) ?rest5x5; case hy5x5 => (intro w hSw; (try dsimp only at hSw); go_split_ands; go_simp; (try with_reducible rfl)))
  try simp only [Act.put, List.setIfInBounds_toArray, List.set_cons_zero, List.set_cons_succ, List.getElem_toArray, List.getElem_cons_zero, List.getElem_cons_succ]
  (refine wpAnyH_take (i := 6) (v := ?v6x6) rfl (by kernel_rfl) (by kernel_rfl) (by kernel_rfl) (fun _ _ _ h => h) (Or.inl ⟨by rfl, ?hy6x6⟩) (by assumption) ?rest6x6; case hy6x6 => (intro w hSw; (try dsimp only at hSw); go_split_ands; go_simp; (try with_reducible rfl)))
  try simp only [Act.put, List.setIfInBounds_toArray, List.set_cons_zero, List.set_cons_succ, List.getElem_toArray, List.getElem_cons_zero, List.getElem_cons_succ]
  refine wpAnyH_ready (rs := [3, 11]) (by kernel_rfl) (by simp) ?_
  refine AllReadyH.cons rfl (fun K hK => ?_) (AllReadyH.cons rfl (fun K hK => ?_) AllReadyH.nil)
  · go_simp
    refine (qP W3.drew _ (Below.drew B3.out) (sP _ (Below.drew D3.out))).mono ?_
    rintro e W4 ⟨v_pv, rfl, o_pv4, b4⟩
    have b4 : Below W3.heap.size W3 W4 := (Below.drew (Below.refl _ _)).trans b4
    refine hK.out _ _ trivial (fun hHeld => ?_)
    clear hK K
    try simp only [Act.put, List.setIfInBounds_toArray, List.set_cons_zero, List.set_cons_succ, List.getElem_toArray, List.getElem_cons_zero, List.getElem_cons_succ]
    have o_pv4 : Own W4 W3.heap.size W4.heap.size 9 _ _ := o_pv4
    obtain ⟨ao_pv, L_pv, cap_pv, rfl, hL_pv, hM_pv⟩ := o_pv4.form
    have o_pv4 : Hid (Own W4 W3.heap.size W4.heap.size 9 (.slice ao_pv L_pv cap_pv) (ss (edge (l.take i)))) := o_pv4
    clear hL_pv hM_pv
    have z4 : W3.heap.size ≤ W4.heap.size := b4.size
    have B4 : Hid (Below w.heap.size w W4) := B3.out.trans (b4.mono B3.out.size)
    have r_e4 : Hid (W4.heap[W2.heap.size]? = some (.cells #[.int .i64 (l.length : Int), .slice ao_ev L_ev cap_ev] 34 (0, 0))) := rowKeep r_e3.out b4
    have o_lv4 : Hid (Own W4 (w.heap.size) (W1.heap.size) 9 (.slice (some ⟨b, off, none⟩) l.length cap) (ss l)) := Own.later o_lv3.out b4 (by omega)
    have o_ev4 : Hid (Own W4 (W1.heap.size) (W2.heap.size) 9 (.slice ao_ev L_ev cap_ev) (ss (edge l))) := Own.later o_ev3.out b4 (by omega)
    have c_e4_0 : W4.cell? ⟨W2.heap.size, 0, none⟩ = some (.int .i64 (l.length : Int)) := row_at r_e4.out 0
    have a_e4_0 : ∀ o, (W4.alloc o).cell? ⟨W2.heap.size, 0, none⟩ = some (.int .i64 (l.length : Int)) := fun o => keepR c_e4_0 ((Below.refl _ _).alloc (Nat.le_refl _) o)
    have c_e4_1 : W4.cell? ⟨W2.heap.size, 1, none⟩ = some (.slice ao_ev L_ev cap_ev) := row_at r_e4.out 1
    have a_e4_1 : ∀ o, (W4.alloc o).cell? ⟨W2.heap.size, 1, none⟩ = some (.slice ao_ev L_ev cap_ev) := fun o => keepR c_e4_1 ((Below.refl _ _).alloc (Nat.le_refl _) o)
    clear r_e3 c_e3_0 c_e3_1 a_e3_0 a_e3_1 o_lv3 o_ev3
    have D4 : Hid (Below W1.heap.size W1 W4) := D3.out.trans (b4.mono D3.out.size)
    refine wpAnyH_ready (rs := [7, 11]) (by kernel_rfl) (by simp) ?_
    refine AllReadyH.cons rfl (fun K hK => ?_) (AllReadyH.cons rfl (fun K hK => ?_) AllReadyH.nil)
    · go_simp
      refine (qL W4 _ _ B4.out o_pv4.out.sl (sD _ D4.out)).mono ?_
      rintro e W5 ⟨v_av, rfl, o_av5, b5⟩
      refine hK.out _ _ trivial (fun hHeld => ?_)
      clear hK K
      try simp only [Act.put, List.setIfInBounds_toArray, List.set_cons_zero, List.set_cons_succ, List.getElem_toArray, List.getElem_cons_zero, List.getElem_cons_succ]
      obtain ⟨ao_av, L_av, cap_av, rfl, hL_av, hM_av⟩ := o_av5.form
      have o_av5 : Hid (Own W5 W4.heap.size W5.heap.size 9 (.slice ao_av L_av cap_av) (ss (edge l))) := o_av5
      clear hL_av hM_av
      have z5 : W4.heap.size ≤ W5.heap.size := b5.size
      have B5 : Hid (Below w.heap.size w W5) := B4.out.trans (b5.mono B4.out.size)
      have r_e5 : Hid (W5.heap[W2.heap.size]? = some (.cells #[.int .i64 (l.length : Int), .slice ao_ev L_ev cap_ev] 34 (0, 0))) := rowKeep r_e4.out b5
      have o_lv5 : Hid (Own W5 (w.heap.size) (W1.heap.size) 9 (.slice (some ⟨b, off, none⟩) l.length cap) (ss l)) := Own.later o_lv4.out b5 (by omega)
      have o_ev5 : Hid (Own W5 (W1.heap.size) (W2.heap.size) 9 (.slice ao_ev L_ev cap_ev) (ss (edge l))) := Own.later o_ev4.out b5 (by omega)
      have o_pv5 : Hid (Own W5 (W3.heap.size) (W4.heap.size) 9 (.slice ao_pv L_pv cap_pv) (ss (edge (l.take i)))) := Own.later o_pv4.out b5 (by omega)
      have c_e5_0 : W5.cell? ⟨W2.heap.size, 0, none⟩ = some (.int .i64 (l.length : Int)) := row_at r_e5.out 0
      have a_e5_0 : ∀ o, (W5.alloc o).cell? ⟨W2.heap.size, 0, none⟩ = some (.int .i64 (l.length : Int)) := fun o => keepR c_e5_0 ((Below.refl _ _).alloc (Nat.le_refl _) o)
      have c_e5_1 : W5.cell? ⟨W2.heap.size, 1, none⟩ = some (.slice ao_ev L_ev cap_ev) := row_at r_e5.out 1
      have a_e5_1 : ∀ o, (W5.alloc o).cell? ⟨W2.heap.size, 1, none⟩ = some (.slice ao_ev L_ev cap_ev) := fun o => keepR c_e5_1 ((Below.refl _ _).alloc (Nat.le_refl _) o)
      clear r_e4 c_e4_0 c_e4_1 a_e4_0 a_e4_1 o_lv4 o_ev4 o_pv4
      have D5 : Hid (Below W1.heap.size W1 W5) := D4.out.trans (b5.mono D4.out.size)
      (refine wpAnyH_take (i := 8) (v := ?v8x7) rfl (by kernel_rfl) (by kernel_rfl) (by kernel_rfl) (fun _ _ _ h => h) (Or.inl ⟨by rfl, ?hy8x7⟩) (by assumption) ?rest8x7; case hy8x7 => (intro w hSw; (try dsimp only at hSw); go_split_ands; go_simp; (try with_reducible rfl)))
      try simp only [Act.put, List.setIfInBounds_toArray, List.set_cons_zero, List.set_cons_succ, List.getElem_toArray, List.getElem_cons_zero, List.getElem_cons_succ]
      (refine wpAnyH_take (i := 9) (v := ?v9x8) rfl (by kernel_rfl) (by kernel_rfl) (by kernel_rfl) (fun _ _ _ h => h) (Or.inl ⟨by rfl, ?hy9x8⟩) (by assumption) ?rest9x8; case hy9x8 => (intro w hSw; (try dsimp only at hSw); go_split_ands; go_simp; (try with_reducible rfl)))
      try simp only [Act.put, List.setIfInBounds_toArray, List.set_cons_zero, List.set_cons_succ, List.getElem_toArray, List.getElem_cons_zero, List.getElem_cons_succ]
      (refine wpAnyH_take (i := 10) (v := ?v10x9) rfl (by kernel_rfl) (by kernel_rfl) (by kernel_rfl) (fun _ _ _ h => h) (Or.inl ⟨by rfl, ?hy10x9⟩) (by assumption) ?rest10x9; case hy10x9 => (intro w hSw; (try dsimp only at hSw); go_split_ands; go_simp; (try with_reducible rfl)))
      try simp only [Act.put, List.setIfInBounds_toArray, List.set_cons_zero, List.set_cons_succ, List.getElem_toArray, List.getElem_cons_zero, List.getElem_cons_succ]
      refine wpAnyH_ready (rs := [11]) (by kernel_rfl) (by simp) ?_
      refine AllReadyH.cons rfl (fun K hK => ?_) AllReadyH.nil
      go_simp
      refine hK.out _ _ trivial (fun hHeld => ?_)
      clear hK K
      try simp only [Act.put, List.setIfInBounds_toArray, List.set_cons_zero, List.set_cons_succ, List.getElem_toArray, List.getElem_cons_zero, List.getElem_cons_succ]
      obtain ⟨W6, HW6, b6, y6, r_ar6⟩ : ∃ X, Hid ((W5.alloc (.cells #[.int .i64 0, .slice none 0 0] 34)) = X) ∧ Below W5.heap.size W5 X ∧ W5.heap.size + 1 ≤ X.heap.size ∧ Hid (X.heap[W5.heap.size]? = some (.cells #[.int .i64 0, .slice none 0 0] 34 (0, 0))) := ⟨_, rfl, ((Below.refl _ _).alloc (Nat.le_refl _) _), (by show _ ≤ (W5.heap.push _).size; simp), heap_alloc_new W5 _⟩
      rw [HW6.out]
      have z6 : W5.heap.size ≤ W6.heap.size := b6.size
      have B6 : Hid (Below w.heap.size w W6) := B5.out.trans (b6.mono B5.out.size)
      have r_e6 : Hid (W6.heap[W2.heap.size]? = some (.cells #[.int .i64 (l.length : Int), .slice ao_ev L_ev cap_ev] 34 (0, 0))) := rowKeep r_e5.out b6
      have o_lv6 : Hid (Own W6 (w.heap.size) (W1.heap.size) 9 (.slice (some ⟨b, off, none⟩) l.length cap) (ss l)) := Own.later o_lv5.out b6 (by omega)
      have o_ev6 : Hid (Own W6 (W1.heap.size) (W2.heap.size) 9 (.slice ao_ev L_ev cap_ev) (ss (edge l))) := Own.later o_ev5.out b6 (by omega)
      have o_pv6 : Hid (Own W6 (W3.heap.size) (W4.heap.size) 9 (.slice ao_pv L_pv cap_pv) (ss (edge (l.take i)))) := Own.later o_pv5.out b6 (by omega)
      have o_av6 : Hid (Own W6 (W4.heap.size) (W5.heap.size) 9 (.slice ao_av L_av cap_av) (ss (edge l))) := Own.later o_av5.out b6 (by omega)
      have c_e6_0 : W6.cell? ⟨W2.heap.size, 0, none⟩ = some (.int .i64 (l.length : Int)) := row_at r_e6.out 0
      have a_e6_0 : ∀ o, (W6.alloc o).cell? ⟨W2.heap.size, 0, none⟩ = some (.int .i64 (l.length : Int)) := fun o => keepR c_e6_0 ((Below.refl _ _).alloc (Nat.le_refl _) o)
      have c_e6_1 : W6.cell? ⟨W2.heap.size, 1, none⟩ = some (.slice ao_ev L_ev cap_ev) := row_at r_e6.out 1
      have a_e6_1 : ∀ o, (W6.alloc o).cell? ⟨W2.heap.size, 1, none⟩ = some (.slice ao_ev L_ev cap_ev) := fun o => keepR c_e6_1 ((Below.refl _ _).alloc (Nat.le_refl _) o)
      have c_ar6_0 : W6.cell? ⟨W5.heap.size, 0, none⟩ = some (.int .i64 0) := row_at r_ar6.out 0
      have a_ar6_0 : ∀ o, (W6.alloc o).cell? ⟨W5.heap.size, 0, none⟩ = some (.int .i64 0) := fun o => keepR c_ar6_0 ((Below.refl _ _).alloc (Nat.le_refl _) o)
      have c_ar6_1 : W6.cell? ⟨W5.heap.size, 1, none⟩ = some (.slice none 0 0) := row_at r_ar6.out 1
      have a_ar6_1 : ∀ o, (W6.alloc o).cell? ⟨W5.heap.size, 1, none⟩ = some (.slice none 0 0) := fun o => keepR c_ar6_1 ((Below.refl _ _).alloc (Nat.le_refl _) o)
      clear r_e5 c_e5_0 c_e5_1 a_e5_0 a_e5_1 o_lv5 o_ev5 o_pv5 o_av5
      have D6 : Hid (Below W1.heap.size W1 W6) := D5.out.trans (b6.mono D5.out.size)
      refine wpAnyH_ready (rs := [12]) (by kernel_rfl) (by simp) ?_
      refine AllReadyH.cons rfl (fun K hK => ?_) AllReadyH.nil
      rw [if_pos (by rfl)]
      refine wp_store_row 34 _ _ rfl (W5.heap.size) (ee (l.length : Int) (.slice ao_av L_av cap_av)) rfl rfl 34 _ r_ar6.out (sizeEd _ _) rfl (oneEd _ rfl) ?_
      refine hK.out _ _ trivial (fun hHeld => ?_)
      clear hK K
      try simp only [Act.put, List.setIfInBounds_toArray, List.set_cons_zero, List.set_cons_succ, List.getElem_toArray, List.getElem_cons_zero, List.getElem_cons_succ]
      have D7a : Below W1.heap.size W1 (W6.setRow (W5.heap.size) (ee (l.length : Int) (.slice ao_av L_av cap_av))) := below_setRow D6.out (by omega) _
      obtain ⟨W7, HW7⟩ : ∃ X, Hid (W6.setRow (W5.heap.size) (ee (l.length : Int) (.slice ao_av L_av cap_av)) = X) := ⟨_, rfl⟩
      have z7 : W6.heap.size ≤ W7.heap.size := by rw [← HW7.out]; simp
      have B7 : Hid (Below w.heap.size w W7) := by show Below _ _ _; rw [← HW7.out]; exact below_setRow B6.out (by have := B6.out.size; omega) _
      have r_e7 : Hid (W7.heap[W2.heap.size]? = some (.cells #[.int .i64 (l.length : Int), .slice ao_ev L_ev cap_ev] 34 (0, 0))) := by show _ = _; rw [← HW7.out]; exact (setRow_other _ _ _ _ (by omega)).trans r_e6.out
      have o_lv7 : Hid (Own W7 (w.heap.size) (W1.heap.size) 9 (.slice (some ⟨b, off, none⟩) l.length cap) (ss l)) := by show Own _ _ _ _ _ _; rw [← HW7.out]; exact Own.setRow o_lv6.out _ (by omega)
      have o_ev7 : Hid (Own W7 (W1.heap.size) (W2.heap.size) 9 (.slice ao_ev L_ev cap_ev) (ss (edge l))) := by show Own _ _ _ _ _ _; rw [← HW7.out]; exact Own.setRow o_ev6.out _ (by omega)
      have o_pv7 : Hid (Own W7 (W3.heap.size) (W4.heap.size) 9 (.slice ao_pv L_pv cap_pv) (ss (edge (l.take i)))) := by show Own _ _ _ _ _ _; rw [← HW7.out]; exact Own.setRow o_pv6.out _ (by omega)
      have o_av7 : Hid (Own W7 (W4.heap.size) (W5.heap.size) 9 (.slice ao_av L_av cap_av) (ss (edge l))) := by show Own _ _ _ _ _ _; rw [← HW7.out]; exact Own.setRow o_av6.out _ (by omega)
      have r_ar7 : Hid (W7.heap[W5.heap.size]? = some (.cells #[.int .i64 (l.length : Int), .slice ao_av L_av cap_av] 34 (0, 0))) := by show _ = _; rw [← HW7.out]; exact setRow_heap _ _ _ _ _ (0, 0) r_ar6.out
      rw [HW7.out]
      clear r_e6 c_e6_0 c_e6_1 a_e6_0 a_e6_1 r_ar6 c_ar6_0 c_ar6_1 a_ar6_0 a_ar6_1 o_lv6 o_ev6 o_pv6 o_av6
      have c_e7_0 : W7.cell? ⟨W2.heap.size, 0, none⟩ = some (.int .i64 (l.length : Int)) := row_at r_e7.out 0
      have a_e7_0 : ∀ o, (W7.alloc o).cell? ⟨W2.heap.size, 0, none⟩ = some (.int .i64 (l.length : Int)) := fun o => keepR c_e7_0 ((Below.refl _ _).alloc (Nat.le_refl _) o)
      have c_e7_1 : W7.cell? ⟨W2.heap.size, 1, none⟩ = some (.slice ao_ev L_ev cap_ev) := row_at r_e7.out 1
      have a_e7_1 : ∀ o, (W7.alloc o).cell? ⟨W2.heap.size, 1, none⟩ = some (.slice ao_ev L_ev cap_ev) := fun o => keepR c_e7_1 ((Below.refl _ _).alloc (Nat.le_refl _) o)
      have c_ar7_0 : W7.cell? ⟨W5.heap.size, 0, none⟩ = some (.int .i64 (l.length : Int)) := row_at r_ar7.out 0
      have a_ar7_0 : ∀ o, (W7.alloc o).cell? ⟨W5.heap.size, 0, none⟩ = some (.int .i64 (l.length : Int)) := fun o => keepR c_ar7_0 ((Below.refl _ _).alloc (Nat.le_refl _) o)
      have c_ar7_1 : W7.cell? ⟨W5.heap.size, 1, none⟩ = some (.slice ao_av L_av cap_av) := row_at r_ar7.out 1
      have a_ar7_1 : ∀ o, (W7.alloc o).cell? ⟨W5.heap.size, 1, none⟩ = some (.slice ao_av L_av cap_av) := fun o => keepR c_ar7_1 ((Below.refl _ _).alloc (Nat.le_refl _) o)
      have D7 : Hid (Below W1.heap.size W1 W7) := by show Below _ _ _; rw [← HW7.out]; exact D7a
      (refine wpAnyH_take (i := 13) (v := ?v13x10) rfl (by kernel_rfl) (by kernel_rfl) (by kernel_rfl) (fun _ _ _ h => h) (Or.inl ⟨by rfl, ?hy13x10⟩) (by assumption) ?rest13x10; case hy13x10 => (intro w hSw; (try dsimp only at hSw); go_split_ands; go_simp; (try with_reducible rfl)))
      try simp only [Act.put, List.setIfInBounds_toArray, List.set_cons_zero, List.set_cons_succ, List.getElem_toArray, List.getElem_cons_zero, List.getElem_cons_succ]
      refine wpAnyH_done (by kernel_rfl) ?_ _
      clear hHeld
      go_wp2_with fail
      refine (qA W7 _ B7.out o_ev7.out.sl).mono ?_
      rintro e W8 ⟨v_bv, rfl, o_bv8, b8⟩
      obtain ⟨ao_bv, L_bv, cap_bv, rfl, hL_bv, hM_bv⟩ := o_bv8.form
      have o_bv8 : Hid (Own W8 W7.heap.size W8.heap.size 9 (.slice ao_bv L_bv cap_bv) (ss E2)) := o_bv8
      clear hL_bv hM_bv
      have z8 : W7.heap.size ≤ W8.heap.size := b8.size
      have B8 : Hid (Below w.heap.size w W8) := B7.out.trans (b8.mono B7.out.size)
      have r_e8 : Hid (W8.heap[W2.heap.size]? = some (.cells #[.int .i64 (l.length : Int), .slice ao_ev L_ev cap_ev] 34 (0, 0))) := rowKeep r_e7.out b8
      have r_ar8 : Hid (W8.heap[W5.heap.size]? = some (.cells #[.int .i64 (l.length : Int), .slice ao_av L_av cap_av] 34 (0, 0))) := rowKeep r_ar7.out b8
      have o_lv8 : Hid (Own W8 (w.heap.size) (W1.heap.size) 9 (.slice (some ⟨b, off, none⟩) l.length cap) (ss l)) := Own.later o_lv7.out b8 (by omega)
      have o_ev8 : Hid (Own W8 (W1.heap.size) (W2.heap.size) 9 (.slice ao_ev L_ev cap_ev) (ss (edge l))) := Own.later o_ev7.out b8 (by omega)
      have o_pv8 : Hid (Own W8 (W3.heap.size) (W4.heap.size) 9 (.slice ao_pv L_pv cap_pv) (ss (edge (l.take i)))) := Own.later o_pv7.out b8 (by omega)
      have o_av8 : Hid (Own W8 (W4.heap.size) (W5.heap.size) 9 (.slice ao_av L_av cap_av) (ss (edge l))) := Own.later o_av7.out b8 (by omega)
      have c_e8_0 : W8.cell? ⟨W2.heap.size, 0, none⟩ = some (.int .i64 (l.length : Int)) := row_at r_e8.out 0
      have a_e8_0 : ∀ o, (W8.alloc o).cell? ⟨W2.heap.size, 0, none⟩ = some (.int .i64 (l.length : Int)) := fun o => keepR c_e8_0 ((Below.refl _ _).alloc (Nat.le_refl _) o)
      have c_e8_1 : W8.cell? ⟨W2.heap.size, 1, none⟩ = some (.slice ao_ev L_ev cap_ev) := row_at r_e8.out 1
      have a_e8_1 : ∀ o, (W8.alloc o).cell? ⟨W2.heap.size, 1, none⟩ = some (.slice ao_ev L_ev cap_ev) := fun o => keepR c_e8_1 ((Below.refl _ _).alloc (Nat.le_refl _) o)
      have c_ar8_0 : W8.cell? ⟨W5.heap.size, 0, none⟩ = some (.int .i64 (l.length : Int)) := row_at r_ar8.out 0
      have a_ar8_0 : ∀ o, (W8.alloc o).cell? ⟨W5.heap.size, 0, none⟩ = some (.int .i64 (l.length : Int)) := fun o => keepR c_ar8_0 ((Below.refl _ _).alloc (Nat.le_refl _) o)
      have c_ar8_1 : W8.cell? ⟨W5.heap.size, 1, none⟩ = some (.slice ao_av L_av cap_av) := row_at r_ar8.out 1
      have a_ar8_1 : ∀ o, (W8.alloc o).cell? ⟨W5.heap.size, 1, none⟩ = some (.slice ao_av L_av cap_av) := fun o => keepR c_ar8_1 ((Below.refl _ _).alloc (Nat.le_refl _) o)
      clear r_e7 c_e7_0 c_e7_1 a_e7_0 a_e7_1 r_ar7 c_ar7_0 c_ar7_1 a_ar7_0 a_ar7_1 o_lv7 o_ev7 o_pv7 o_av7
      have D8 : Hid (Below W1.heap.size W1 W8) := D7.out.trans (b8.mono D7.out.size)
      obtain ⟨W9, HW9, b9, y9, r_b9⟩ : ∃ X, Hid ((W8.alloc (.cells #[.int .i64 n2, .slice ao_bv L_bv cap_bv] 34)) = X) ∧ Below W8.heap.size W8 X ∧ W8.heap.size + 1 ≤ X.heap.size ∧ Hid (X.heap[W8.heap.size]? = some (.cells #[.int .i64 n2, .slice ao_bv L_bv cap_bv] 34 (0, 0))) := ⟨_, rfl, (Below.refl _ _).alloc (Nat.le_refl _) _, by simp, heap_alloc_new _ _⟩
      have z9 : W8.heap.size ≤ W9.heap.size := b9.size
      have B9 : Hid (Below w.heap.size w W9) := B8.out.trans (b9.mono B8.out.size)
      have r_e9 : Hid (W9.heap[W2.heap.size]? = some (.cells #[.int .i64 (l.length : Int), .slice ao_ev L_ev cap_ev] 34 (0, 0))) := rowKeep r_e8.out b9
      have r_ar9 : Hid (W9.heap[W5.heap.size]? = some (.cells #[.int .i64 (l.length : Int), .slice ao_av L_av cap_av] 34 (0, 0))) := rowKeep r_ar8.out b9
      have o_lv9 : Hid (Own W9 (w.heap.size) (W1.heap.size) 9 (.slice (some ⟨b, off, none⟩) l.length cap) (ss l)) := Own.later o_lv8.out b9 (by omega)
      have o_ev9 : Hid (Own W9 (W1.heap.size) (W2.heap.size) 9 (.slice ao_ev L_ev cap_ev) (ss (edge l))) := Own.later o_ev8.out b9 (by omega)
      have o_pv9 : Hid (Own W9 (W3.heap.size) (W4.heap.size) 9 (.slice ao_pv L_pv cap_pv) (ss (edge (l.take i)))) := Own.later o_pv8.out b9 (by omega)
      have o_av9 : Hid (Own W9 (W4.heap.size) (W5.heap.size) 9 (.slice ao_av L_av cap_av) (ss (edge l))) := Own.later o_av8.out b9 (by omega)
      have o_bv9 : Hid (Own W9 (W7.heap.size) (W8.heap.size) 9 (.slice ao_bv L_bv cap_bv) (ss E2)) := Own.later o_bv8.out b9 (by omega)
      have c_e9_0 : W9.cell? ⟨W2.heap.size, 0, none⟩ = some (.int .i64 (l.length : Int)) := row_at r_e9.out 0
      have a_e9_0 : ∀ o, (W9.alloc o).cell? ⟨W2.heap.size, 0, none⟩ = some (.int .i64 (l.length : Int)) := fun o => keepR c_e9_0 ((Below.refl _ _).alloc (Nat.le_refl _) o)
      have c_e9_1 : W9.cell? ⟨W2.heap.size, 1, none⟩ = some (.slice ao_ev L_ev cap_ev) := row_at r_e9.out 1
      have a_e9_1 : ∀ o, (W9.alloc o).cell? ⟨W2.heap.size, 1, none⟩ = some (.slice ao_ev L_ev cap_ev) := fun o => keepR c_e9_1 ((Below.refl _ _).alloc (Nat.le_refl _) o)
      have c_ar9_0 : W9.cell? ⟨W5.heap.size, 0, none⟩ = some (.int .i64 (l.length : Int)) := row_at r_ar9.out 0
      have a_ar9_0 : ∀ o, (W9.alloc o).cell? ⟨W5.heap.size, 0, none⟩ = some (.int .i64 (l.length : Int)) := fun o => keepR c_ar9_0 ((Below.refl _ _).alloc (Nat.le_refl _) o)
      have c_ar9_1 : W9.cell? ⟨W5.heap.size, 1, none⟩ = some (.slice ao_av L_av cap_av) := row_at r_ar9.out 1
      have a_ar9_1 : ∀ o, (W9.alloc o).cell? ⟨W5.heap.size, 1, none⟩ = some (.slice ao_av L_av cap_av) := fun o => keepR c_ar9_1 ((Below.refl _ _).alloc (Nat.le_refl _) o)
      have c_b9_0 : W9.cell? ⟨W8.heap.size, 0, none⟩ = some (.int .i64 n2) := row_at r_b9.out 0
      have a_b9_0 : ∀ o, (W9.alloc o).cell? ⟨W8.heap.size, 0, none⟩ = some (.int .i64 n2) := fun o => keepR c_b9_0 ((Below.refl _ _).alloc (Nat.le_refl _) o)
      have c_b9_1 : W9.cell? ⟨W8.heap.size, 1, none⟩ = some (.slice ao_bv L_bv cap_bv) := row_at r_b9.out 1
      have a_b9_1 : ∀ o, (W9.alloc o).cell? ⟨W8.heap.size, 1, none⟩ = some (.slice ao_bv L_bv cap_bv) := fun o => keepR c_b9_1 ((Below.refl _ _).alloc (Nat.le_refl _) o)
      clear r_e8 c_e8_0 c_e8_1 r_ar8 c_ar8_0 c_ar8_1 o_lv8 o_ev8 o_pv8 o_av8 o_bv8
      have D9 : Hid (Below W1.heap.size W1 W9) := D8.out.trans (b9.mono D8.out.size)
      go_wp2_with fail
      rw [HW9.out]
      clear a_e8_0 a_e8_1 a_ar8_0 a_ar8_1
      refine (qK W9 _ B9.out o_ev9.out.sl).mono ?_
      rintro e W10 ⟨rfl, b10⟩
      have z10 : W9.heap.size ≤ W10.heap.size := b10.size
      have B10 : Hid (Below w.heap.size w W10) := B9.out.trans (b10.mono B9.out.size)
      have r_e10 : Hid (W10.heap[W2.heap.size]? = some (.cells #[.int .i64 (l.length : Int), .slice ao_ev L_ev cap_ev] 34 (0, 0))) := rowKeep r_e9.out b10
      have r_ar10 : Hid (W10.heap[W5.heap.size]? = some (.cells #[.int .i64 (l.length : Int), .slice ao_av L_av cap_av] 34 (0, 0))) := rowKeep r_ar9.out b10
      have r_b10 : Hid (W10.heap[W8.heap.size]? = some (.cells #[.int .i64 n2, .slice ao_bv L_bv cap_bv] 34 (0, 0))) := rowKeep r_b9.out b10
      have o_lv10 : Hid (Own W10 (w.heap.size) (W1.heap.size) 9 (.slice (some ⟨b, off, none⟩) l.length cap) (ss l)) := Own.later o_lv9.out b10 (by omega)
      have o_ev10 : Hid (Own W10 (W1.heap.size) (W2.heap.size) 9 (.slice ao_ev L_ev cap_ev) (ss (edge l))) := Own.later o_ev9.out b10 (by omega)
      have o_pv10 : Hid (Own W10 (W3.heap.size) (W4.heap.size) 9 (.slice ao_pv L_pv cap_pv) (ss (edge (l.take i)))) := Own.later o_pv9.out b10 (by omega)
      have o_av10 : Hid (Own W10 (W4.heap.size) (W5.heap.size) 9 (.slice ao_av L_av cap_av) (ss (edge l))) := Own.later o_av9.out b10 (by omega)
      have o_bv10 : Hid (Own W10 (W7.heap.size) (W8.heap.size) 9 (.slice ao_bv L_bv cap_bv) (ss E2)) := Own.later o_bv9.out b10 (by omega)
      have c_e10_0 : W10.cell? ⟨W2.heap.size, 0, none⟩ = some (.int .i64 (l.length : Int)) := row_at r_e10.out 0
      have a_e10_0 : ∀ o, (W10.alloc o).cell? ⟨W2.heap.size, 0, none⟩ = some (.int .i64 (l.length : Int)) := fun o => keepR c_e10_0 ((Below.refl _ _).alloc (Nat.le_refl _) o)
      have c_e10_1 : W10.cell? ⟨W2.heap.size, 1, none⟩ = some (.slice ao_ev L_ev cap_ev) := row_at r_e10.out 1
      have a_e10_1 : ∀ o, (W10.alloc o).cell? ⟨W2.heap.size, 1, none⟩ = some (.slice ao_ev L_ev cap_ev) := fun o => keepR c_e10_1 ((Below.refl _ _).alloc (Nat.le_refl _) o)
      have c_ar10_0 : W10.cell? ⟨W5.heap.size, 0, none⟩ = some (.int .i64 (l.length : Int)) := row_at r_ar10.out 0
      have a_ar10_0 : ∀ o, (W10.alloc o).cell? ⟨W5.heap.size, 0, none⟩ = some (.int .i64 (l.length : Int)) := fun o => keepR c_ar10_0 ((Below.refl _ _).alloc (Nat.le_refl _) o)
      have c_ar10_1 : W10.cell? ⟨W5.heap.size, 1, none⟩ = some (.slice ao_av L_av cap_av) := row_at r_ar10.out 1
      have a_ar10_1 : ∀ o, (W10.alloc o).cell? ⟨W5.heap.size, 1, none⟩ = some (.slice ao_av L_av cap_av) := fun o => keepR c_ar10_1 ((Below.refl _ _).alloc (Nat.le_refl _) o)
      have c_b10_0 : W10.cell? ⟨W8.heap.size, 0, none⟩ = some (.int .i64 n2) := row_at r_b10.out 0
      have a_b10_0 : ∀ o, (W10.alloc o).cell? ⟨W8.heap.size, 0, none⟩ = some (.int .i64 n2) := fun o => keepR c_b10_0 ((Below.refl _ _).alloc (Nat.le_refl _) o)
      have c_b10_1 : W10.cell? ⟨W8.heap.size, 1, none⟩ = some (.slice ao_bv L_bv cap_bv) := row_at r_b10.out 1
      have a_b10_1 : ∀ o, (W10.alloc o).cell? ⟨W8.heap.size, 1, none⟩ = some (.slice ao_bv L_bv cap_bv) := fun o => keepR c_b10_1 ((Below.refl _ _).alloc (Nat.le_refl _) o)
      clear r_e9 c_e9_0 c_e9_1 a_e9_0 a_e9_1 r_ar9 c_ar9_0 c_ar9_1 a_ar9_0 a_ar9_1 r_b9 c_b9_0 c_b9_1 a_b9_0 a_b9_1 o_lv9 o_ev9 o_pv9 o_av9 o_bv9
      have D10 : Hid (Below W1.heap.size W1 W10) := D9.out.trans (b10.mono D9.out.size)
      go_wp2_with fail
      refine (qR1 W10 _ B10.out o_ev10.out.sl).mono ?_
      rintro e W11 ⟨rfl, b11⟩
      have z11 : W10.heap.size ≤ W11.heap.size := b11.size
      have B11 : Hid (Below w.heap.size w W11) := B10.out.trans (b11.mono B10.out.size)
      have r_e11 : Hid (W11.heap[W2.heap.size]? = some (.cells #[.int .i64 (l.length : Int), .slice ao_ev L_ev cap_ev] 34 (0, 0))) := rowKeep r_e10.out b11
      have r_ar11 : Hid (W11.heap[W5.heap.size]? = some (.cells #[.int .i64 (l.length : Int), .slice ao_av L_av cap_av] 34 (0, 0))) := rowKeep r_ar10.out b11
      have r_b11 : Hid (W11.heap[W8.heap.size]? = some (.cells #[.int .i64 n2, .slice ao_bv L_bv cap_bv] 34 (0, 0))) := rowKeep r_b10.out b11
      have o_lv11 : Hid (Own W11 (w.heap.size) (W1.heap.size) 9 (.slice (some ⟨b, off, none⟩) l.length cap) (ss l)) := Own.later o_lv10.out b11 (by omega)
      have o_ev11 : Hid (Own W11 (W1.heap.size) (W2.heap.size) 9 (.slice ao_ev L_ev cap_ev) (ss (edge l))) := Own.later o_ev10.out b11 (by omega)
      have o_pv11 : Hid (Own W11 (W3.heap.size) (W4.heap.size) 9 (.slice ao_pv L_pv cap_pv) (ss (edge (l.take i)))) := Own.later o_pv10.out b11 (by omega)
      have o_av11 : Hid (Own W11 (W4.heap.size) (W5.heap.size) 9 (.slice ao_av L_av cap_av) (ss (edge l))) := Own.later o_av10.out b11 (by omega)
      have o_bv11 : Hid (Own W11 (W7.heap.size) (W8.heap.size) 9 (.slice ao_bv L_bv cap_bv) (ss E2)) := Own.later o_bv10.out b11 (by omega)
      have c_e11_0 : W11.cell? ⟨W2.heap.size, 0, none⟩ = some (.int .i64 (l.length : Int)) := row_at r_e11.out 0
      have a_e11_0 : ∀ o, (W11.alloc o).cell? ⟨W2.heap.size, 0, none⟩ = some (.int .i64 (l.length : Int)) := fun o => keepR c_e11_0 ((Below.refl _ _).alloc (Nat.le_refl _) o)
      have c_e11_1 : W11.cell? ⟨W2.heap.size, 1, none⟩ = some (.slice ao_ev L_ev cap_ev) := row_at r_e11.out 1
      have a_e11_1 : ∀ o, (W11.alloc o).cell? ⟨W2.heap.size, 1, none⟩ = some (.slice ao_ev L_ev cap_ev) := fun o => keepR c_e11_1 ((Below.refl _ _).alloc (Nat.le_refl _) o)
      have c_ar11_0 : W11.cell? ⟨W5.heap.size, 0, none⟩ = some (.int .i64 (l.length : Int)) := row_at r_ar11.out 0
      have a_ar11_0 : ∀ o, (W11.alloc o).cell? ⟨W5.heap.size, 0, none⟩ = some (.int .i64 (l.length : Int)) := fun o => keepR c_ar11_0 ((Below.refl _ _).alloc (Nat.le_refl _) o)
      have c_ar11_1 : W11.cell? ⟨W5.heap.size, 1, none⟩ = some (.slice ao_av L_av cap_av) := row_at r_ar11.out 1
      have a_ar11_1 : ∀ o, (W11.alloc o).cell? ⟨W5.heap.size, 1, none⟩ = some (.slice ao_av L_av cap_av) := fun o => keepR c_ar11_1 ((Below.refl _ _).alloc (Nat.le_refl _) o)
      have c_b11_0 : W11.cell? ⟨W8.heap.size, 0, none⟩ = some (.int .i64 n2) := row_at r_b11.out 0
      have a_b11_0 : ∀ o, (W11.alloc o).cell? ⟨W8.heap.size, 0, none⟩ = some (.int .i64 n2) := fun o => keepR c_b11_0 ((Below.refl _ _).alloc (Nat.le_refl _) o)
      have c_b11_1 : W11.cell? ⟨W8.heap.size, 1, none⟩ = some (.slice ao_bv L_bv cap_bv) := row_at r_b11.out 1
      have a_b11_1 : ∀ o, (W11.alloc o).cell? ⟨W8.heap.size, 1, none⟩ = some (.slice ao_bv L_bv cap_bv) := fun o => keepR c_b11_1 ((Below.refl _ _).alloc (Nat.le_refl _) o)
      clear r_e10 c_e10_0 c_e10_1 a_e10_0 a_e10_1 r_ar10 c_ar10_0 c_ar10_1 a_ar10_0 a_ar10_1 r_b10 c_b10_0 c_b10_1 a_b10_0 a_b10_1 o_lv10 o_ev10 o_pv10 o_av10 o_bv10
      have D11 : Hid (Below W1.heap.size W1 W11) := D10.out.trans (b11.mono D10.out.size)
      go_wp2_with fail
      refine (qR0 W11 _ B11.out o_lv11.out.sl).mono ?_
      rintro e W12 ⟨rfl, b12⟩
      have z12 : W11.heap.size ≤ W12.heap.size := b12.size
      have B12 : Hid (Below w.heap.size w W12) := B11.out.trans (b12.mono B11.out.size)
      have r_e12 : Hid (W12.heap[W2.heap.size]? = some (.cells #[.int .i64 (l.length : Int), .slice ao_ev L_ev cap_ev] 34 (0, 0))) := rowKeep r_e11.out b12
      have r_ar12 : Hid (W12.heap[W5.heap.size]? = some (.cells #[.int .i64 (l.length : Int), .slice ao_av L_av cap_av] 34 (0, 0))) := rowKeep r_ar11.out b12
      have r_b12 : Hid (W12.heap[W8.heap.size]? = some (.cells #[.int .i64 n2, .slice ao_bv L_bv cap_bv] 34 (0, 0))) := rowKeep r_b11.out b12
      have o_lv12 : Hid (Own W12 (w.heap.size) (W1.heap.size) 9 (.slice (some ⟨b, off, none⟩) l.length cap) (ss l)) := Own.later o_lv11.out b12 (by omega)
      have o_ev12 : Hid (Own W12 (W1.heap.size) (W2.heap.size) 9 (.slice ao_ev L_ev cap_ev) (ss (edge l))) := Own.later o_ev11.out b12 (by omega)
      have o_pv12 : Hid (Own W12 (W3.heap.size) (W4.heap.size) 9 (.slice ao_pv L_pv cap_pv) (ss (edge (l.take i)))) := Own.later o_pv11.out b12 (by omega)
      have o_av12 : Hid (Own W12 (W4.heap.size) (W5.heap.size) 9 (.slice ao_av L_av cap_av) (ss (edge l))) := Own.later o_av11.out b12 (by omega)
      have o_bv12 : Hid (Own W12 (W7.heap.size) (W8.heap.size) 9 (.slice ao_bv L_bv cap_bv) (ss E2)) := Own.later o_bv11.out b12 (by omega)
      have c_e12_0 : W12.cell? ⟨W2.heap.size, 0, none⟩ = some (.int .i64 (l.length : Int)) := row_at r_e12.out 0
      have a_e12_0 : ∀ o, (W12.alloc o).cell? ⟨W2.heap.size, 0, none⟩ = some (.int .i64 (l.length : Int)) := fun o => keepR c_e12_0 ((Below.refl _ _).alloc (Nat.le_refl _) o)
      have c_e12_1 : W12.cell? ⟨W2.heap.size, 1, none⟩ = some (.slice ao_ev L_ev cap_ev) := row_at r_e12.out 1
      have a_e12_1 : ∀ o, (W12.alloc o).cell? ⟨W2.heap.size, 1, none⟩ = some (.slice ao_ev L_ev cap_ev) := fun o => keepR c_e12_1 ((Below.refl _ _).alloc (Nat.le_refl _) o)
      have c_ar12_0 : W12.cell? ⟨W5.heap.size, 0, none⟩ = some (.int .i64 (l.length : Int)) := row_at r_ar12.out 0
      have a_ar12_0 : ∀ o, (W12.alloc o).cell? ⟨W5.heap.size, 0, none⟩ = some (.int .i64 (l.length : Int)) := fun o => keepR c_ar12_0 ((Below.refl _ _).alloc (Nat.le_refl _) o)
      have c_ar12_1 : W12.cell? ⟨W5.heap.size, 1, none⟩ = some (.slice ao_av L_av cap_av) := row_at r_ar12.out 1
      have a_ar12_1 : ∀ o, (W12.alloc o).cell? ⟨W5.heap.size, 1, none⟩ = some (.slice ao_av L_av cap_av) := fun o => keepR c_ar12_1 ((Below.refl _ _).alloc (Nat.le_refl _) o)
      have c_b12_0 : W12.cell? ⟨W8.heap.size, 0, none⟩ = some (.int .i64 n2) := row_at r_b12.out 0
      have a_b12_0 : ∀ o, (W12.alloc o).cell? ⟨W8.heap.size, 0, none⟩ = some (.int .i64 n2) := fun o => keepR c_b12_0 ((Below.refl _ _).alloc (Nat.le_refl _) o)
      have c_b12_1 : W12.cell? ⟨W8.heap.size, 1, none⟩ = some (.slice ao_bv L_bv cap_bv) := row_at r_b12.out 1
      have a_b12_1 : ∀ o, (W12.alloc o).cell? ⟨W8.heap.size, 1, none⟩ = some (.slice ao_bv L_bv cap_bv) := fun o => keepR c_b12_1 ((Below.refl _ _).alloc (Nat.le_refl _) o)
      clear r_e11 c_e11_0 c_e11_1 a_e11_0 a_e11_1 r_ar11 c_ar11_0 c_ar11_1 a_ar11_0 a_ar11_1 r_b11 c_b11_0 c_b11_1 a_b11_0 a_b11_1 o_lv11 o_ev11 o_pv11 o_av11 o_bv11
      have D12 : Hid (Below W1.heap.size W1 W12) := D11.out.trans (b12.mono D11.out.size)
      go_wp2_with fail
      refine (same_true W12 _ _ (edge l) o_av12.out.sl o_ev12.out.sl (by omega)).mono ?_
      rintro e W13 ⟨rfl, h13, _⟩
      have b13 : Below W12.heap.size W12 W13 := h13 _
      clear h13
      have z13 : W12.heap.size ≤ W13.heap.size := b13.size
      have B13 : Hid (Below w.heap.size w W13) := B12.out.trans (b13.mono B12.out.size)
      have r_e13 : Hid (W13.heap[W2.heap.size]? = some (.cells #[.int .i64 (l.length : Int), .slice ao_ev L_ev cap_ev] 34 (0, 0))) := rowKeep r_e12.out b13
      have r_ar13 : Hid (W13.heap[W5.heap.size]? = some (.cells #[.int .i64 (l.length : Int), .slice ao_av L_av cap_av] 34 (0, 0))) := rowKeep r_ar12.out b13
      have r_b13 : Hid (W13.heap[W8.heap.size]? = some (.cells #[.int .i64 n2, .slice ao_bv L_bv cap_bv] 34 (0, 0))) := rowKeep r_b12.out b13
      have o_lv13 : Hid (Own W13 (w.heap.size) (W1.heap.size) 9 (.slice (some ⟨b, off, none⟩) l.length cap) (ss l)) := Own.later o_lv12.out b13 (by omega)
      have o_ev13 : Hid (Own W13 (W1.heap.size) (W2.heap.size) 9 (.slice ao_ev L_ev cap_ev) (ss (edge l))) := Own.later o_ev12.out b13 (by omega)
      have o_pv13 : Hid (Own W13 (W3.heap.size) (W4.heap.size) 9 (.slice ao_pv L_pv cap_pv) (ss (edge (l.take i)))) := Own.later o_pv12.out b13 (by omega)
      have o_av13 : Hid (Own W13 (W4.heap.size) (W5.heap.size) 9 (.slice ao_av L_av cap_av) (ss (edge l))) := Own.later o_av12.out b13 (by omega)
      have o_bv13 : Hid (Own W13 (W7.heap.size) (W8.heap.size) 9 (.slice ao_bv L_bv cap_bv) (ss E2)) := Own.later o_bv12.out b13 (by omega)
      have c_e13_0 : W13.cell? ⟨W2.heap.size, 0, none⟩ = some (.int .i64 (l.length : Int)) := row_at r_e13.out 0
      have a_e13_0 : ∀ o, (W13.alloc o).cell? ⟨W2.heap.size, 0, none⟩ = some (.int .i64 (l.length : Int)) := fun o => keepR c_e13_0 ((Below.refl _ _).alloc (Nat.le_refl _) o)
      have c_e13_1 : W13.cell? ⟨W2.heap.size, 1, none⟩ = some (.slice ao_ev L_ev cap_ev) := row_at r_e13.out 1
      have a_e13_1 : ∀ o, (W13.alloc o).cell? ⟨W2.heap.size, 1, none⟩ = some (.slice ao_ev L_ev cap_ev) := fun o => keepR c_e13_1 ((Below.refl _ _).alloc (Nat.le_refl _) o)
      have c_ar13_0 : W13.cell? ⟨W5.heap.size, 0, none⟩ = some (.int .i64 (l.length : Int)) := row_at r_ar13.out 0
      have a_ar13_0 : ∀ o, (W13.alloc o).cell? ⟨W5.heap.size, 0, none⟩ = some (.int .i64 (l.length : Int)) := fun o => keepR c_ar13_0 ((Below.refl _ _).alloc (Nat.le_refl _) o)
      have c_ar13_1 : W13.cell? ⟨W5.heap.size, 1, none⟩ = some (.slice ao_av L_av cap_av) := row_at r_ar13.out 1
      have a_ar13_1 : ∀ o, (W13.alloc o).cell? ⟨W5.heap.size, 1, none⟩ = some (.slice ao_av L_av cap_av) := fun o => keepR c_ar13_1 ((Below.refl _ _).alloc (Nat.le_refl _) o)
      have c_b13_0 : W13.cell? ⟨W8.heap.size, 0, none⟩ = some (.int .i64 n2) := row_at r_b13.out 0
      have a_b13_0 : ∀ o, (W13.alloc o).cell? ⟨W8.heap.size, 0, none⟩ = some (.int .i64 n2) := fun o => keepR c_b13_0 ((Below.refl _ _).alloc (Nat.le_refl _) o)
      have c_b13_1 : W13.cell? ⟨W8.heap.size, 1, none⟩ = some (.slice ao_bv L_bv cap_bv) := row_at r_b13.out 1
      have a_b13_1 : ∀ o, (W13.alloc o).cell? ⟨W8.heap.size, 1, none⟩ = some (.slice ao_bv L_bv cap_bv) := fun o => keepR c_b13_1 ((Below.refl _ _).alloc (Nat.le_refl _) o)
      clear r_e12 c_e12_0 c_e12_1 a_e12_0 a_e12_1 r_ar12 c_ar12_0 c_ar12_1 a_ar12_0 a_ar12_1 r_b12 c_b12_0 c_b12_1 a_b12_0 a_b12_1 o_lv12 o_ev12 o_pv12 o_av12 o_bv12
      have D13 : Hid (Below W1.heap.size W1 W13) := D12.out.trans (b13.mono D12.out.size)
      go_wp2_with fail
      refine (qR2 W13 _ B13.out o_bv13.out.sl).mono ?_
      rintro e W14 ⟨rfl, b14⟩
      have z14 : W13.heap.size ≤ W14.heap.size := b14.size
      have B14 : Hid (Below w.heap.size w W14) := B13.out.trans (b14.mono B13.out.size)
      have r_e14 : Hid (W14.heap[W2.heap.size]? = some (.cells #[.int .i64 (l.length : Int), .slice ao_ev L_ev cap_ev] 34 (0, 0))) := rowKeep r_e13.out b14
      have r_ar14 : Hid (W14.heap[W5.heap.size]? = some (.cells #[.int .i64 (l.length : Int), .slice ao_av L_av cap_av] 34 (0, 0))) := rowKeep r_ar13.out b14
      have r_b14 : Hid (W14.heap[W8.heap.size]? = some (.cells #[.int .i64 n2, .slice ao_bv L_bv cap_bv] 34 (0, 0))) := rowKeep r_b13.out b14
      have o_lv14 : Hid (Own W14 (w.heap.size) (W1.heap.size) 9 (.slice (some ⟨b, off, none⟩) l.length cap) (ss l)) := Own.later o_lv13.out b14 (by omega)
      have o_ev14 : Hid (Own W14 (W1.heap.size) (W2.heap.size) 9 (.slice ao_ev L_ev cap_ev) (ss (edge l))) := Own.later o_ev13.out b14 (by omega)
      have o_pv14 : Hid (Own W14 (W3.heap.size) (W4.heap.size) 9 (.slice ao_pv L_pv cap_pv) (ss (edge (l.take i)))) := Own.later o_pv13.out b14 (by omega)
      have o_av14 : Hid (Own W14 (W4.heap.size) (W5.heap.size) 9 (.slice ao_av L_av cap_av) (ss (edge l))) := Own.later o_av13.out b14 (by omega)
      have o_bv14 : Hid (Own W14 (W7.heap.size) (W8.heap.size) 9 (.slice ao_bv L_bv cap_bv) (ss E2)) := Own.later o_bv13.out b14 (by omega)
      have c_e14_0 : W14.cell? ⟨W2.heap.size, 0, none⟩ = some (.int .i64 (l.length : Int)) := row_at r_e14.out 0
      have a_e14_0 : ∀ o, (W14.alloc o).cell? ⟨W2.heap.size, 0, none⟩ = some (.int .i64 (l.length : Int)) := fun o => keepR c_e14_0 ((Below.refl _ _).alloc (Nat.le_refl _) o)
      have c_e14_1 : W14.cell? ⟨W2.heap.size, 1, none⟩ = some (.slice ao_ev L_ev cap_ev) := row_at r_e14.out 1
      have a_e14_1 : ∀ o, (W14.alloc o).cell? ⟨W2.heap.size, 1, none⟩ = some (.slice ao_ev L_ev cap_ev) := fun o => keepR c_e14_1 ((Below.refl _ _).alloc (Nat.le_refl _) o)
      have c_ar14_0 : W14.cell? ⟨W5.heap.size, 0, none⟩ = some (.int .i64 (l.length : Int)) := row_at r_ar14.out 0
      have a_ar14_0 : ∀ o, (W14.alloc o).cell? ⟨W5.heap.size, 0, none⟩ = some (.int .i64 (l.length : Int)) := fun o => keepR c_ar14_0 ((Below.refl _ _).alloc (Nat.le_refl _) o)
      have c_ar14_1 : W14.cell? ⟨W5.heap.size, 1, none⟩ = some (.slice ao_av L_av cap_av) := row_at r_ar14.out 1
      have a_ar14_1 : ∀ o, (W14.alloc o).cell? ⟨W5.heap.size, 1, none⟩ = some (.slice ao_av L_av cap_av) := fun o => keepR c_ar14_1 ((Below.refl _ _).alloc (Nat.le_refl _) o)
      have c_b14_0 : W14.cell? ⟨W8.heap.size, 0, none⟩ = some (.int .i64 n2) := row_at r_b14.out 0
      have a_b14_0 : ∀ o, (W14.alloc o).cell? ⟨W8.heap.size, 0, none⟩ = some (.int .i64 n2) := fun o => keepR c_b14_0 ((Below.refl _ _).alloc (Nat.le_refl _) o)
      have c_b14_1 : W14.cell? ⟨W8.heap.size, 1, none⟩ = some (.slice ao_bv L_bv cap_bv) := row_at r_b14.out 1
      have a_b14_1 : ∀ o, (W14.alloc o).cell? ⟨W8.heap.size, 1, none⟩ = some (.slice ao_bv L_bv cap_bv) := fun o => keepR c_b14_1 ((Below.refl _ _).alloc (Nat.le_refl _) o)
      clear r_e13 c_e13_0 c_e13_1 a_e13_0 a_e13_1 r_ar13 c_ar13_0 c_ar13_1 a_ar13_0 a_ar13_1 r_b13 c_b13_0 c_b13_1 a_b13_0 a_b13_1 o_lv13 o_ev13 o_pv13 o_av13 o_bv13
      have D14 : Hid (Below W1.heap.size W1 W14) := D13.out.trans (b14.mono D13.out.size)
      have hL8 : (L_ev : Int) ≤ 8 := by
        obtain ⟨_, L9, _, he, h1, _⟩ := Mem.Own.form o_ev14.out
        simp only [Value.slice.injEq] at he
        rw [ss_len] at h1
        omega
      have zz14 : W14.heap.size ≤ (W14.alloc (.cells #[] 9)).heap.size := by simp
      go_wp2_with (at_builtin; go_must (refine wpl_app _ rfl (.tmp 77) (.tmp 78) 24 rfl 9 i0 (.string ⟨#[]⟩) 16 Tryd.underlying24 hi hz0 hz1 hz2 rfl W14.heap.size _ _ rfl (emptyT W14 W14.heap.size (Nat.le_refl _)) _ rfl (ss l) ((o_lv14.out.sl).later ((Below.refl _ _).alloc (Nat.le_refl _) _)) (ss_one l) c6 c7 zz14 ?_))
      intro v_p W15 o_p15 b15 g15
      have b15 : Below W14.heap.size W14 W15 := ((Below.refl _ _).alloc (Nat.le_refl _) _).trans b15
      clear g15 zz14
      have o_p15 : Own W15 W14.heap.size W15.heap.size 9 v_p (ss l) := o_p15
      obtain ⟨ao_p, L_p, cap_p, rfl, hL_p, hM_p⟩ := o_p15.form
      have o_p15 : Hid (Own W15 W14.heap.size W15.heap.size 9 (.slice ao_p L_p cap_p) (ss l)) := o_p15
      clear hL_p hM_p
      have z15 : W14.heap.size ≤ W15.heap.size := b15.size
      have B15 : Hid (Below w.heap.size w W15) := B14.out.trans (b15.mono B14.out.size)
      have r_e15 : Hid (W15.heap[W2.heap.size]? = some (.cells #[.int .i64 (l.length : Int), .slice ao_ev L_ev cap_ev] 34 (0, 0))) := rowKeep r_e14.out b15
      have r_ar15 : Hid (W15.heap[W5.heap.size]? = some (.cells #[.int .i64 (l.length : Int), .slice ao_av L_av cap_av] 34 (0, 0))) := rowKeep r_ar14.out b15
      have r_b15 : Hid (W15.heap[W8.heap.size]? = some (.cells #[.int .i64 n2, .slice ao_bv L_bv cap_bv] 34 (0, 0))) := rowKeep r_b14.out b15
      have o_lv15 : Hid (Own W15 (w.heap.size) (W1.heap.size) 9 (.slice (some ⟨b, off, none⟩) l.length cap) (ss l)) := Own.later o_lv14.out b15 (by omega)
      have o_ev15 : Hid (Own W15 (W1.heap.size) (W2.heap.size) 9 (.slice ao_ev L_ev cap_ev) (ss (edge l))) := Own.later o_ev14.out b15 (by omega)
      have o_pv15 : Hid (Own W15 (W3.heap.size) (W4.heap.size) 9 (.slice ao_pv L_pv cap_pv) (ss (edge (l.take i)))) := Own.later o_pv14.out b15 (by omega)
      have o_av15 : Hid (Own W15 (W4.heap.size) (W5.heap.size) 9 (.slice ao_av L_av cap_av) (ss (edge l))) := Own.later o_av14.out b15 (by omega)
      have o_bv15 : Hid (Own W15 (W7.heap.size) (W8.heap.size) 9 (.slice ao_bv L_bv cap_bv) (ss E2)) := Own.later o_bv14.out b15 (by omega)
      have c_e15_0 : W15.cell? ⟨W2.heap.size, 0, none⟩ = some (.int .i64 (l.length : Int)) := row_at r_e15.out 0
      have a_e15_0 : ∀ o, (W15.alloc o).cell? ⟨W2.heap.size, 0, none⟩ = some (.int .i64 (l.length : Int)) := fun o => keepR c_e15_0 ((Below.refl _ _).alloc (Nat.le_refl _) o)
      have c_e15_1 : W15.cell? ⟨W2.heap.size, 1, none⟩ = some (.slice ao_ev L_ev cap_ev) := row_at r_e15.out 1
      have a_e15_1 : ∀ o, (W15.alloc o).cell? ⟨W2.heap.size, 1, none⟩ = some (.slice ao_ev L_ev cap_ev) := fun o => keepR c_e15_1 ((Below.refl _ _).alloc (Nat.le_refl _) o)
      have c_ar15_0 : W15.cell? ⟨W5.heap.size, 0, none⟩ = some (.int .i64 (l.length : Int)) := row_at r_ar15.out 0
      have a_ar15_0 : ∀ o, (W15.alloc o).cell? ⟨W5.heap.size, 0, none⟩ = some (.int .i64 (l.length : Int)) := fun o => keepR c_ar15_0 ((Below.refl _ _).alloc (Nat.le_refl _) o)
      have c_ar15_1 : W15.cell? ⟨W5.heap.size, 1, none⟩ = some (.slice ao_av L_av cap_av) := row_at r_ar15.out 1
      have a_ar15_1 : ∀ o, (W15.alloc o).cell? ⟨W5.heap.size, 1, none⟩ = some (.slice ao_av L_av cap_av) := fun o => keepR c_ar15_1 ((Below.refl _ _).alloc (Nat.le_refl _) o)
      have c_b15_0 : W15.cell? ⟨W8.heap.size, 0, none⟩ = some (.int .i64 n2) := row_at r_b15.out 0
      have a_b15_0 : ∀ o, (W15.alloc o).cell? ⟨W8.heap.size, 0, none⟩ = some (.int .i64 n2) := fun o => keepR c_b15_0 ((Below.refl _ _).alloc (Nat.le_refl _) o)
      have c_b15_1 : W15.cell? ⟨W8.heap.size, 1, none⟩ = some (.slice ao_bv L_bv cap_bv) := row_at r_b15.out 1
      have a_b15_1 : ∀ o, (W15.alloc o).cell? ⟨W8.heap.size, 1, none⟩ = some (.slice ao_bv L_bv cap_bv) := fun o => keepR c_b15_1 ((Below.refl _ _).alloc (Nat.le_refl _) o)
      clear r_e14 c_e14_0 c_e14_1 a_e14_0 a_e14_1 r_ar14 c_ar14_0 c_ar14_1 a_ar14_0 a_ar14_1 r_b14 c_b14_0 c_b14_1 a_b14_0 a_b14_1 o_lv14 o_ev14 o_pv14 o_av14 o_bv14
      have D15 : Hid (Below W1.heap.size W1 W15) := D14.out.trans (b15.mono D14.out.size)
      have zz15 : W14.heap.size ≤ (W15.alloc (.cells #[.string ⟨#[120]⟩] 9)).heap.size := by simp; omega
      go_wp2_with (at_builtin; go_must (refine wpl_app _ rfl (.tmp 79) (.tmp 80) 24 rfl 9 i0 (.string ⟨#[]⟩) 16 Tryd.underlying24 hi hz0 hz1 hz2 rfl W14.heap.size _ _ rfl (o_p15.out.alloc _) _ rfl [.string ⟨#[120]⟩] (Laws.Sl.one _ _ _) (oneT _) c8 c9 zz15 ?_))
      intro v_s W16 o_s16 b16 g16
      have b16 : Below W14.heap.size W15 W16 := ((Below.refl _ _).alloc (by omega) _).trans b16
      clear g16 zz15
      have o_s16 : Own W16 W14.heap.size W16.heap.size 9 v_s (ss (l ++ [⟨#[120]⟩])) := by rw [ss_app]; exact o_s16
      have B16 : Hid (Below w.heap.size w W16) := B15.out.trans (b16.mono (by have := B14.out.size; omega))
      have k_e : W16.cell? ⟨W2.heap.size, 1, none⟩ = some (.slice ao_ev L_ev cap_ev) := (b16.cell (by show W2.heap.size < _; omega)).trans c_e15_1
      have qz := qRz W16 _ B16.out o_s16.sl
      go_wp2_with fail
      refine qz.mono ?_
      rintro e W17 ⟨rfl, b17⟩
      have k_e2 := keepR k_e b17
      have BB : Below w.heap.size w W17 := B16.out.trans (b17.mono B16.out.size)
      go_wp2
      go_ret
      exact ⟨rfl, BB⟩
    · go_simp
      refine hK.out _ _ trivial (fun hHeld => ?_)
      clear hK K
      try simp only [Act.put, List.setIfInBounds_toArray, List.set_cons_zero, List.set_cons_succ, List.getElem_toArray, List.getElem_cons_zero, List.getElem_cons_succ]
      obtain ⟨W5, HW5, b5, y5, r_ar5⟩ : ∃ X, Hid ((W4.alloc (.cells #[.int .i64 0, .slice none 0 0] 34)) = X) ∧ Below W4.heap.size W4 X ∧ W4.heap.size + 1 ≤ X.heap.size ∧ Hid (X.heap[W4.heap.size]? = some (.cells #[.int .i64 0, .slice none 0 0] 34 (0, 0))) := ⟨_, rfl, ((Below.refl _ _).alloc (Nat.le_refl _) _), (by show _ ≤ (W4.heap.push _).size; simp), heap_alloc_new W4 _⟩
      rw [HW5.out]
      have z5 : W4.heap.size ≤ W5.heap.size := b5.size
      have B5 : Hid (Below w.heap.size w W5) := B4.out.trans (b5.mono B4.out.size)
      have r_e5 : Hid (W5.heap[W2.heap.size]? = some (.cells #[.int .i64 (l.length : Int), .slice ao_ev L_ev cap_ev] 34 (0, 0))) := rowKeep r_e4.out b5
      have o_lv5 : Hid (Own W5 (w.heap.size) (W1.heap.size) 9 (.slice (some ⟨b, off, none⟩) l.length cap) (ss l)) := Own.later o_lv4.out b5 (by omega)
      have o_ev5 : Hid (Own W5 (W1.heap.size) (W2.heap.size) 9 (.slice ao_ev L_ev cap_ev) (ss (edge l))) := Own.later o_ev4.out b5 (by omega)
      have o_pv5 : Hid (Own W5 (W3.heap.size) (W4.heap.size) 9 (.slice ao_pv L_pv cap_pv) (ss (edge (l.take i)))) := Own.later o_pv4.out b5 (by omega)
      have c_e5_0 : W5.cell? ⟨W2.heap.size, 0, none⟩ = some (.int .i64 (l.length : Int)) := row_at r_e5.out 0
      have a_e5_0 : ∀ o, (W5.alloc o).cell? ⟨W2.heap.size, 0, none⟩ = some (.int .i64 (l.length : Int)) := fun o => keepR c_e5_0 ((Below.refl _ _).alloc (Nat.le_refl _) o)
      have c_e5_1 : W5.cell? ⟨W2.heap.size, 1, none⟩ = some (.slice ao_ev L_ev cap_ev) := row_at r_e5.out 1
      have a_e5_1 : ∀ o, (W5.alloc o).cell? ⟨W2.heap.size, 1, none⟩ = some (.slice ao_ev L_ev cap_ev) := fun o => keepR c_e5_1 ((Below.refl _ _).alloc (Nat.le_refl _) o)
      have c_ar5_0 : W5.cell? ⟨W4.heap.size, 0, none⟩ = some (.int .i64 0) := row_at r_ar5.out 0
      have a_ar5_0 : ∀ o, (W5.alloc o).cell? ⟨W4.heap.size, 0, none⟩ = some (.int .i64 0) := fun o => keepR c_ar5_0 ((Below.refl _ _).alloc (Nat.le_refl _) o)
      have c_ar5_1 : W5.cell? ⟨W4.heap.size, 1, none⟩ = some (.slice none 0 0) := row_at r_ar5.out 1
      have a_ar5_1 : ∀ o, (W5.alloc o).cell? ⟨W4.heap.size, 1, none⟩ = some (.slice none 0 0) := fun o => keepR c_ar5_1 ((Below.refl _ _).alloc (Nat.le_refl _) o)
      clear r_e4 c_e4_0 c_e4_1 a_e4_0 a_e4_1 o_lv4 o_ev4 o_pv4
      have D5 : Hid (Below W1.heap.size W1 W5) := D4.out.trans (b5.mono D4.out.size)
      refine wpAnyH_ready (rs := [7]) (by kernel_rfl) (by simp) ?_
      refine AllReadyH.cons rfl (fun K hK => ?_) AllReadyH.nil
      go_simp
      refine (qL W5 _ _ B5.out o_pv5.out.sl (sD _ D5.out)).mono ?_
      rintro e W6 ⟨v_av, rfl, o_av6, b6⟩
      refine hK.out _ _ trivial (fun hHeld => ?_)
      clear hK K
      try simp only [Act.put, List.setIfInBounds_toArray, List.set_cons_zero, List.set_cons_succ, List.getElem_toArray, List.getElem_cons_zero, List.getElem_cons_succ]
      obtain ⟨ao_av, L_av, cap_av, rfl, hL_av, hM_av⟩ := o_av6.form
      have o_av6 : Hid (Own W6 W5.heap.size W6.heap.size 9 (.slice ao_av L_av cap_av) (ss (edge l))) := o_av6
      clear hL_av hM_av
      have z6 : W5.heap.size ≤ W6.heap.size := b6.size
      have B6 : Hid (Below w.heap.size w W6) := B5.out.trans (b6.mono B5.out.size)
      have r_e6 : Hid (W6.heap[W2.heap.size]? = some (.cells #[.int .i64 (l.length : Int), .slice ao_ev L_ev cap_ev] 34 (0, 0))) := rowKeep r_e5.out b6
      have r_ar6 : Hid (W6.heap[W4.heap.size]? = some (.cells #[.int .i64 0, .slice none 0 0] 34 (0, 0))) := rowKeep r_ar5.out b6
      have o_lv6 : Hid (Own W6 (w.heap.size) (W1.heap.size) 9 (.slice (some ⟨b, off, none⟩) l.length cap) (ss l)) := Own.later o_lv5.out b6 (by omega)
      have o_ev6 : Hid (Own W6 (W1.heap.size) (W2.heap.size) 9 (.slice ao_ev L_ev cap_ev) (ss (edge l))) := Own.later o_ev5.out b6 (by omega)
      have o_pv6 : Hid (Own W6 (W3.heap.size) (W4.heap.size) 9 (.slice ao_pv L_pv cap_pv) (ss (edge (l.take i)))) := Own.later o_pv5.out b6 (by omega)
      have c_e6_0 : W6.cell? ⟨W2.heap.size, 0, none⟩ = some (.int .i64 (l.length : Int)) := row_at r_e6.out 0
      have a_e6_0 : ∀ o, (W6.alloc o).cell? ⟨W2.heap.size, 0, none⟩ = some (.int .i64 (l.length : Int)) := fun o => keepR c_e6_0 ((Below.refl _ _).alloc (Nat.le_refl _) o)
      have c_e6_1 : W6.cell? ⟨W2.heap.size, 1, none⟩ = some (.slice ao_ev L_ev cap_ev) := row_at r_e6.out 1
      have a_e6_1 : ∀ o, (W6.alloc o).cell? ⟨W2.heap.size, 1, none⟩ = some (.slice ao_ev L_ev cap_ev) := fun o => keepR c_e6_1 ((Below.refl _ _).alloc (Nat.le_refl _) o)
      have c_ar6_0 : W6.cell? ⟨W4.heap.size, 0, none⟩ = some (.int .i64 0) := row_at r_ar6.out 0
      have a_ar6_0 : ∀ o, (W6.alloc o).cell? ⟨W4.heap.size, 0, none⟩ = some (.int .i64 0) := fun o => keepR c_ar6_0 ((Below.refl _ _).alloc (Nat.le_refl _) o)
      have c_ar6_1 : W6.cell? ⟨W4.heap.size, 1, none⟩ = some (.slice none 0 0) := row_at r_ar6.out 1
      have a_ar6_1 : ∀ o, (W6.alloc o).cell? ⟨W4.heap.size, 1, none⟩ = some (.slice none 0 0) := fun o => keepR c_ar6_1 ((Below.refl _ _).alloc (Nat.le_refl _) o)
      clear r_e5 c_e5_0 c_e5_1 a_e5_0 a_e5_1 r_ar5 c_ar5_0 c_ar5_1 a_ar5_0 a_ar5_1 o_lv5 o_ev5 o_pv5
      have D6 : Hid (Below W1.heap.size W1 W6) := D5.out.trans (b6.mono D5.out.size)
      (refine wpAnyH_take (i := 8) (v := ?v8x11) rfl (by kernel_rfl) (by kernel_rfl) (by kernel_rfl) (fun _ _ _ h => h) (Or.inl ⟨by rfl, ?hy8x11⟩) (by assumption) ?rest8x11; case hy8x11 => (intro w hSw; (try dsimp only at hSw); go_split_ands; go_simp; (try with_reducible rfl)))
      try simp only [Act.put, List.setIfInBounds_toArray, List.set_cons_zero, List.set_cons_succ, List.getElem_toArray, List.getElem_cons_zero, List.getElem_cons_succ]
      (refine wpAnyH_take (i := 9) (v := ?v9x12) rfl (by kernel_rfl) (by kernel_rfl) (by kernel_rfl) (fun _ _ _ h => h) (Or.inl ⟨by rfl, ?hy9x12⟩) (by assumption) ?rest9x12; case hy9x12 => (intro w hSw; (try dsimp only at hSw); go_split_ands; go_simp; (try with_reducible rfl)))
      try simp only [Act.put, List.setIfInBounds_toArray, List.set_cons_zero, List.set_cons_succ, List.getElem_toArray, List.getElem_cons_zero, List.getElem_cons_succ]
      (refine wpAnyH_take (i := 10) (v := ?v10x13) rfl (by kernel_rfl) (by kernel_rfl) (by kernel_rfl) (fun _ _ _ h => h) (Or.inl ⟨by rfl, ?hy10x13⟩) (by assumption) ?rest10x13; case hy10x13 => (intro w hSw; (try dsimp only at hSw); go_split_ands; go_simp; (try with_reducible rfl)))
      try simp only [Act.put, List.setIfInBounds_toArray, List.set_cons_zero, List.set_cons_succ, List.getElem_toArray, List.getElem_cons_zero, List.getElem_cons_succ]
      refine wpAnyH_ready (rs := [12]) (by kernel_rfl) (by simp) ?_
      refine AllReadyH.cons rfl (fun K hK => ?_) AllReadyH.nil
      rw [if_pos (by rfl)]
      refine wp_store_row 34 _ _ rfl (W4.heap.size) (ee (l.length : Int) (.slice ao_av L_av cap_av)) rfl rfl 34 _ r_ar6.out (sizeEd _ _) rfl (oneEd _ rfl) ?_
      refine hK.out _ _ trivial (fun hHeld => ?_)
      clear hK K
      try simp only [Act.put, List.setIfInBounds_toArray, List.set_cons_zero, List.set_cons_succ, List.getElem_toArray, List.getElem_cons_zero, List.getElem_cons_succ]
      have D7a : Below W1.heap.size W1 (W6.setRow (W4.heap.size) (ee (l.length : Int) (.slice ao_av L_av cap_av))) := below_setRow D6.out (by omega) _
      obtain ⟨W7, HW7⟩ : ∃ X, Hid (W6.setRow (W4.heap.size) (ee (l.length : Int) (.slice ao_av L_av cap_av)) = X) := ⟨_, rfl⟩
      have z7 : W6.heap.size ≤ W7.heap.size := by rw [← HW7.out]; simp
      have B7 : Hid (Below w.heap.size w W7) := by show Below _ _ _; rw [← HW7.out]; exact below_setRow B6.out (by have := B6.out.size; omega) _
      have r_e7 : Hid (W7.heap[W2.heap.size]? = some (.cells #[.int .i64 (l.length : Int), .slice ao_ev L_ev cap_ev] 34 (0, 0))) := by show _ = _; rw [← HW7.out]; exact (setRow_other _ _ _ _ (by omega)).trans r_e6.out
      have o_lv7 : Hid (Own W7 (w.heap.size) (W1.heap.size) 9 (.slice (some ⟨b, off, none⟩) l.length cap) (ss l)) := by show Own _ _ _ _ _ _; rw [← HW7.out]; exact Own.setRow o_lv6.out _ (by omega)
      have o_ev7 : Hid (Own W7 (W1.heap.size) (W2.heap.size) 9 (.slice ao_ev L_ev cap_ev) (ss (edge l))) := by show Own _ _ _ _ _ _; rw [← HW7.out]; exact Own.setRow o_ev6.out _ (by omega)
      have o_pv7 : Hid (Own W7 (W3.heap.size) (W4.heap.size) 9 (.slice ao_pv L_pv cap_pv) (ss (edge (l.take i)))) := by show Own _ _ _ _ _ _; rw [← HW7.out]; exact Own.setRow o_pv6.out _ (by omega)
      have o_av7 : Hid (Own W7 (W5.heap.size) (W6.heap.size) 9 (.slice ao_av L_av cap_av) (ss (edge l))) := by show Own _ _ _ _ _ _; rw [← HW7.out]; exact Own.setRow o_av6.out _ (by omega)
      have r_ar7 : Hid (W7.heap[W4.heap.size]? = some (.cells #[.int .i64 (l.length : Int), .slice ao_av L_av cap_av] 34 (0, 0))) := by show _ = _; rw [← HW7.out]; exact setRow_heap _ _ _ _ _ (0, 0) r_ar6.out
      rw [HW7.out]
      clear r_e6 c_e6_0 c_e6_1 a_e6_0 a_e6_1 r_ar6 c_ar6_0 c_ar6_1 a_ar6_0 a_ar6_1 o_lv6 o_ev6 o_pv6 o_av6
      have c_e7_0 : W7.cell? ⟨W2.heap.size, 0, none⟩ = some (.int .i64 (l.length : Int)) := row_at r_e7.out 0
      have a_e7_0 : ∀ o, (W7.alloc o).cell? ⟨W2.heap.size, 0, none⟩ = some (.int .i64 (l.length : Int)) := fun o => keepR c_e7_0 ((Below.refl _ _).alloc (Nat.le_refl _) o)
      have c_e7_1 : W7.cell? ⟨W2.heap.size, 1, none⟩ = some (.slice ao_ev L_ev cap_ev) := row_at r_e7.out 1
      have a_e7_1 : ∀ o, (W7.alloc o).cell? ⟨W2.heap.size, 1, none⟩ = some (.slice ao_ev L_ev cap_ev) := fun o => keepR c_e7_1 ((Below.refl _ _).alloc (Nat.le_refl _) o)
      have c_ar7_0 : W7.cell? ⟨W4.heap.size, 0, none⟩ = some (.int .i64 (l.length : Int)) := row_at r_ar7.out 0
      have a_ar7_0 : ∀ o, (W7.alloc o).cell? ⟨W4.heap.size, 0, none⟩ = some (.int .i64 (l.length : Int)) := fun o => keepR c_ar7_0 ((Below.refl _ _).alloc (Nat.le_refl _) o)
      have c_ar7_1 : W7.cell? ⟨W4.heap.size, 1, none⟩ = some (.slice ao_av L_av cap_av) := row_at r_ar7.out 1
      have a_ar7_1 : ∀ o, (W7.alloc o).cell? ⟨W4.heap.size, 1, none⟩ = some (.slice ao_av L_av cap_av) := fun o => keepR c_ar7_1 ((Below.refl _ _).alloc (Nat.le_refl _) o)
      have D7 : Hid (Below W1.heap.size W1 W7) := by show Below _ _ _; rw [← HW7.out]; exact D7a
      (refine wpAnyH_take (i := 13) (v := ?v13x14) rfl (by kernel_rfl) (by kernel_rfl) (by kernel_rfl) (fun _ _ _ h => h) (Or.inl ⟨by rfl, ?hy13x14⟩) (by assumption) ?rest13x14; case hy13x14 => (intro w hSw; (try dsimp only at hSw); go_split_ands; go_simp; (try with_reducible rfl)))
      try simp only [Act.put, List.setIfInBounds_toArray, List.set_cons_zero, List.set_cons_succ, List.getElem_toArray, List.getElem_cons_zero, List.getElem_cons_succ]
      refine wpAnyH_done (by kernel_rfl) ?_ _
      clear hHeld
      go_wp2_with fail
      refine (qA W7 _ B7.out o_ev7.out.sl).mono ?_
      rintro e W8 ⟨v_bv, rfl, o_bv8, b8⟩
      obtain ⟨ao_bv, L_bv, cap_bv, rfl, hL_bv, hM_bv⟩ := o_bv8.form
      have o_bv8 : Hid (Own W8 W7.heap.size W8.heap.size 9 (.slice ao_bv L_bv cap_bv) (ss E2)) := o_bv8
      clear hL_bv hM_bv
      have z8 : W7.heap.size ≤ W8.heap.size := b8.size
      have B8 : Hid (Below w.heap.size w W8) := B7.out.trans (b8.mono B7.out.size)
      have r_e8 : Hid (W8.heap[W2.heap.size]? = some (.cells #[.int .i64 (l.length : Int), .slice ao_ev L_ev cap_ev] 34 (0, 0))) := rowKeep r_e7.out b8
      have r_ar8 : Hid (W8.heap[W4.heap.size]? = some (.cells #[.int .i64 (l.length : Int), .slice ao_av L_av cap_av] 34 (0, 0))) := rowKeep r_ar7.out b8
      have o_lv8 : Hid (Own W8 (w.heap.size) (W1.heap.size) 9 (.slice (some ⟨b, off, none⟩) l.length cap) (ss l)) := Own.later o_lv7.out b8 (by omega)
      have o_ev8 : Hid (Own W8 (W1.heap.size) (W2.heap.size) 9 (.slice ao_ev L_ev cap_ev) (ss (edge l))) := Own.later o_ev7.out b8 (by omega)
      have o_pv8 : Hid (Own W8 (W3.heap.size) (W4.heap.size) 9 (.slice ao_pv L_pv cap_pv) (ss (edge (l.take i)))) := Own.later o_pv7.out b8 (by omega)
      have o_av8 : Hid (Own W8 (W5.heap.size) (W6.heap.size) 9 (.slice ao_av L_av cap_av) (ss (edge l))) := Own.later o_av7.out b8 (by omega)
      have c_e8_0 : W8.cell? ⟨W2.heap.size, 0, none⟩ = some (.int .i64 (l.length : Int)) := row_at r_e8.out 0
      have a_e8_0 : ∀ o, (W8.alloc o).cell? ⟨W2.heap.size, 0, none⟩ = some (.int .i64 (l.length : Int)) := fun o => keepR c_e8_0 ((Below.refl _ _).alloc (Nat.le_refl _) o)
      have c_e8_1 : W8.cell? ⟨W2.heap.size, 1, none⟩ = some (.slice ao_ev L_ev cap_ev) := row_at r_e8.out 1
      have a_e8_1 : ∀ o, (W8.alloc o).cell? ⟨W2.heap.size, 1, none⟩ = some (.slice ao_ev L_ev cap_ev) := fun o => keepR c_e8_1 ((Below.refl _ _).alloc (Nat.le_refl _) o)
      have c_ar8_0 : W8.cell? ⟨W4.heap.size, 0, none⟩ = some (.int .i64 (l.length : Int)) := row_at r_ar8.out 0
      have a_ar8_0 : ∀ o, (W8.alloc o).cell? ⟨W4.heap.size, 0, none⟩ = some (.int .i64 (l.length : Int)) := fun o => keepR c_ar8_0 ((Below.refl _ _).alloc (Nat.le_refl _) o)
      have c_ar8_1 : W8.cell? ⟨W4.heap.size, 1, none⟩ = some (.slice ao_av L_av cap_av) := row_at r_ar8.out 1
      have a_ar8_1 : ∀ o, (W8.alloc o).cell? ⟨W4.heap.size, 1, none⟩ = some (.slice ao_av L_av cap_av) := fun o => keepR c_ar8_1 ((Below.refl _ _).alloc (Nat.le_refl _) o)
      clear r_e7 c_e7_0 c_e7_1 a_e7_0 a_e7_1 r_ar7 c_ar7_0 c_ar7_1 a_ar7_0 a_ar7_1 o_lv7 o_ev7 o_pv7 o_av7
      have D8 : Hid (Below W1.heap.size W1 W8) := D7.out.trans (b8.mono D7.out.size)
      obtain ⟨W9, HW9, b9, y9, r_b9⟩ : ∃ X, Hid ((W8.alloc (.cells #[.int .i64 n2, .slice ao_bv L_bv cap_bv] 34)) = X) ∧ Below W8.heap.size W8 X ∧ W8.heap.size + 1 ≤ X.heap.size ∧ Hid (X.heap[W8.heap.size]? = some (.cells #[.int .i64 n2, .slice ao_bv L_bv cap_bv] 34 (0, 0))) := ⟨_, rfl, (Below.refl _ _).alloc (Nat.le_refl _) _, by simp, heap_alloc_new _ _⟩
      have z9 : W8.heap.size ≤ W9.heap.size := b9.size
      have B9 : Hid (Below w.heap.size w W9) := B8.out.trans (b9.mono B8.out.size)
      have r_e9 : Hid (W9.heap[W2.heap.size]? = some (.cells #[.int .i64 (l.length : Int), .slice ao_ev L_ev cap_ev] 34 (0, 0))) := rowKeep r_e8.out b9
      have r_ar9 : Hid (W9.heap[W4.heap.size]? = some (.cells #[.int .i64 (l.length : Int), .slice ao_av L_av cap_av] 34 (0, 0))) := rowKeep r_ar8.out b9
      have o_lv9 : Hid (Own W9 (w.heap.size) (W1.heap.size) 9 (.slice (some ⟨b, off, none⟩) l.length cap) (ss l)) := Own.later o_lv8.out b9 (by omega)
      have o_ev9 : Hid (Own W9 (W1.heap.size) (W2.heap.size) 9 (.slice ao_ev L_ev cap_ev) (ss (edge l))) := Own.later o_ev8.out b9 (by omega)
      have o_pv9 : Hid (Own W9 (W3.heap.size) (W4.heap.size) 9 (.slice ao_pv L_pv cap_pv) (ss (edge (l.take i)))) := Own.later o_pv8.out b9 (by omega)
      have o_av9 : Hid (Own W9 (W5.heap.size) (W6.heap.size) 9 (.slice ao_av L_av cap_av) (ss (edge l))) := Own.later o_av8.out b9 (by omega)
      have o_bv9 : Hid (Own W9 (W7.heap.size) (W8.heap.size) 9 (.slice ao_bv L_bv cap_bv) (ss E2)) := Own.later o_bv8.out b9 (by omega)
      have c_e9_0 : W9.cell? ⟨W2.heap.size, 0, none⟩ = some (.int .i64 (l.length : Int)) := row_at r_e9.out 0
      have a_e9_0 : ∀ o, (W9.alloc o).cell? ⟨W2.heap.size, 0, none⟩ = some (.int .i64 (l.length : Int)) := fun o => keepR c_e9_0 ((Below.refl _ _).alloc (Nat.le_refl _) o)
      have c_e9_1 : W9.cell? ⟨W2.heap.size, 1, none⟩ = some (.slice ao_ev L_ev cap_ev) := row_at r_e9.out 1
      have a_e9_1 : ∀ o, (W9.alloc o).cell? ⟨W2.heap.size, 1, none⟩ = some (.slice ao_ev L_ev cap_ev) := fun o => keepR c_e9_1 ((Below.refl _ _).alloc (Nat.le_refl _) o)
      have c_ar9_0 : W9.cell? ⟨W4.heap.size, 0, none⟩ = some (.int .i64 (l.length : Int)) := row_at r_ar9.out 0
      have a_ar9_0 : ∀ o, (W9.alloc o).cell? ⟨W4.heap.size, 0, none⟩ = some (.int .i64 (l.length : Int)) := fun o => keepR c_ar9_0 ((Below.refl _ _).alloc (Nat.le_refl _) o)
      have c_ar9_1 : W9.cell? ⟨W4.heap.size, 1, none⟩ = some (.slice ao_av L_av cap_av) := row_at r_ar9.out 1
      have a_ar9_1 : ∀ o, (W9.alloc o).cell? ⟨W4.heap.size, 1, none⟩ = some (.slice ao_av L_av cap_av) := fun o => keepR c_ar9_1 ((Below.refl _ _).alloc (Nat.le_refl _) o)
      have c_b9_0 : W9.cell? ⟨W8.heap.size, 0, none⟩ = some (.int .i64 n2) := row_at r_b9.out 0
      have a_b9_0 : ∀ o, (W9.alloc o).cell? ⟨W8.heap.size, 0, none⟩ = some (.int .i64 n2) := fun o => keepR c_b9_0 ((Below.refl _ _).alloc (Nat.le_refl _) o)
      have c_b9_1 : W9.cell? ⟨W8.heap.size, 1, none⟩ = some (.slice ao_bv L_bv cap_bv) := row_at r_b9.out 1
      have a_b9_1 : ∀ o, (W9.alloc o).cell? ⟨W8.heap.size, 1, none⟩ = some (.slice ao_bv L_bv cap_bv) := fun o => keepR c_b9_1 ((Below.refl _ _).alloc (Nat.le_refl _) o)
      clear r_e8 c_e8_0 c_e8_1 r_ar8 c_ar8_0 c_ar8_1 o_lv8 o_ev8 o_pv8 o_av8 o_bv8
      have D9 : Hid (Below W1.heap.size W1 W9) := D8.out.trans (b9.mono D8.out.size)
      go_wp2_with fail
      rw [HW9.out]
      clear a_e8_0 a_e8_1 a_ar8_0 a_ar8_1
      refine (qK W9 _ B9.out o_ev9.out.sl).mono ?_
      rintro e W10 ⟨rfl, b10⟩
      have z10 : W9.heap.size ≤ W10.heap.size := b10.size
      have B10 : Hid (Below w.heap.size w W10) := B9.out.trans (b10.mono B9.out.size)
      have r_e10 : Hid (W10.heap[W2.heap.size]? = some (.cells #[.int .i64 (l.length : Int), .slice ao_ev L_ev cap_ev] 34 (0, 0))) := rowKeep r_e9.out b10
      have r_ar10 : Hid (W10.heap[W4.heap.size]? = some (.cells #[.int .i64 (l.length : Int), .slice ao_av L_av cap_av] 34 (0, 0))) := rowKeep r_ar9.out b10
      have r_b10 : Hid (W10.heap[W8.heap.size]? = some (.cells #[.int .i64 n2, .slice ao_bv L_bv cap_bv] 34 (0, 0))) := rowKeep r_b9.out b10
      have o_lv10 : Hid (Own W10 (w.heap.size) (W1.heap.size) 9 (.slice (some ⟨b, off, none⟩) l.length cap) (ss l)) := Own.later o_lv9.out b10 (by omega)
      have o_ev10 : Hid (Own W10 (W1.heap.size) (W2.heap.size) 9 (.slice ao_ev L_ev cap_ev) (ss (edge l))) := Own.later o_ev9.out b10 (by omega)
      have o_pv10 : Hid (Own W10 (W3.heap.size) (W4.heap.size) 9 (.slice ao_pv L_pv cap_pv) (ss (edge (l.take i)))) := Own.later o_pv9.out b10 (by omega)
      have o_av10 : Hid (Own W10 (W5.heap.size) (W6.heap.size) 9 (.slice ao_av L_av cap_av) (ss (edge l))) := Own.later o_av9.out b10 (by omega)
      have o_bv10 : Hid (Own W10 (W7.heap.size) (W8.heap.size) 9 (.slice ao_bv L_bv cap_bv) (ss E2)) := Own.later o_bv9.out b10 (by omega)
      have c_e10_0 : W10.cell? ⟨W2.heap.size, 0, none⟩ = some (.int .i64 (l.length : Int)) := row_at r_e10.out 0
      have a_e10_0 : ∀ o, (W10.alloc o).cell? ⟨W2.heap.size, 0, none⟩ = some (.int .i64 (l.length : Int)) := fun o => keepR c_e10_0 ((Below.refl _ _).alloc (Nat.le_refl _) o)
      have c_e10_1 : W10.cell? ⟨W2.heap.size, 1, none⟩ = some (.slice ao_ev L_ev cap_ev) := row_at r_e10.out 1
      have a_e10_1 : ∀ o, (W10.alloc o).cell? ⟨W2.heap.size, 1, none⟩ = some (.slice ao_ev L_ev cap_ev) := fun o => keepR c_e10_1 ((Below.refl _ _).alloc (Nat.le_refl _) o)
      have c_ar10_0 : W10.cell? ⟨W4.heap.size, 0, none⟩ = some (.int .i64 (l.length : Int)) := row_at r_ar10.out 0
      have a_ar10_0 : ∀ o, (W10.alloc o).cell? ⟨W4.heap.size, 0, none⟩ = some (.int .i64 (l.length : Int)) := fun o => keepR c_ar10_0 ((Below.refl _ _).alloc (Nat.le_refl _) o)
      have c_ar10_1 : W10.cell? ⟨W4.heap.size, 1, none⟩ = some (.slice ao_av L_av cap_av) := row_at r_ar10.out 1
      have a_ar10_1 : ∀ o, (W10.alloc o).cell? ⟨W4.heap.size, 1, none⟩ = some (.slice ao_av L_av cap_av) := fun o => keepR c_ar10_1 ((Below.refl _ _).alloc (Nat.le_refl _) o)
      have c_b10_0 : W10.cell? ⟨W8.heap.size, 0, none⟩ = some (.int .i64 n2) := row_at r_b10.out 0
      have a_b10_0 : ∀ o, (W10.alloc o).cell? ⟨W8.heap.size, 0, none⟩ = some (.int .i64 n2) := fun o => keepR c_b10_0 ((Below.refl _ _).alloc (Nat.le_refl _) o)
      have c_b10_1 : W10.cell? ⟨W8.heap.size, 1, none⟩ = some (.slice ao_bv L_bv cap_bv) := row_at r_b10.out 1
      have a_b10_1 : ∀ o, (W10.alloc o).cell? ⟨W8.heap.size, 1, none⟩ = some (.slice ao_bv L_bv cap_bv) := fun o => keepR c_b10_1 ((Below.refl _ _).alloc (Nat.le_refl _) o)
      clear r_e9 c_e9_0 c_e9_1 a_e9_0 a_e9_1 r_ar9 c_ar9_0 c_ar9_1 a_ar9_0 a_ar9_1 r_b9 c_b9_0 c_b9_1 a_b9_0 a_b9_1 o_lv9 o_ev9 o_pv9 o_av9 o_bv9
      have D10 : Hid (Below W1.heap.size W1 W10) := D9.out.trans (b10.mono D9.out.size)
      go_wp2_with fail
      refine (qR1 W10 _ B10.out o_ev10.out.sl).mono ?_
      rintro e W11 ⟨rfl, b11⟩
      have z11 : W10.heap.size ≤ W11.heap.size := b11.size
      have B11 : Hid (Below w.heap.size w W11) := B10.out.trans (b11.mono B10.out.size)
      have r_e11 : Hid (W11.heap[W2.heap.size]? = some (.cells #[.int .i64 (l.length : Int), .slice ao_ev L_ev cap_ev] 34 (0, 0))) := rowKeep r_e10.out b11
      have r_ar11 : Hid (W11.heap[W4.heap.size]? = some (.cells #[.int .i64 (l.length : Int), .slice ao_av L_av cap_av] 34 (0, 0))) := rowKeep r_ar10.out b11
      have r_b11 : Hid (W11.heap[W8.heap.size]? = some (.cells #[.int .i64 n2, .slice ao_bv L_bv cap_bv] 34 (0, 0))) := rowKeep r_b10.out b11
      have o_lv11 : Hid (Own W11 (w.heap.size) (W1.heap.size) 9 (.slice (some ⟨b, off, none⟩) l.length cap) (ss l)) := Own.later o_lv10.out b11 (by omega)
      have o_ev11 : Hid (Own W11 (W1.heap.size) (W2.heap.size) 9 (.slice ao_ev L_ev cap_ev) (ss (edge l))) := Own.later o_ev10.out b11 (by omega)
      have o_pv11 : Hid (Own W11 (W3.heap.size) (W4.heap.size) 9 (.slice ao_pv L_pv cap_pv) (ss (edge (l.take i)))) := Own.later o_pv10.out b11 (by omega)
      have o_av11 : Hid (Own W11 (W5.heap.size) (W6.heap.size) 9 (.slice ao_av L_av cap_av) (ss (edge l))) := Own.later o_av10.out b11 (by omega)
      have o_bv11 : Hid (Own W11 (W7.heap.size) (W8.heap.size) 9 (.slice ao_bv L_bv cap_bv) (ss E2)) := Own.later o_bv10.out b11 (by omega)
      have c_e11_0 : W11.cell? ⟨W2.heap.size, 0, none⟩ = some (.int .i64 (l.length : Int)) := row_at r_e11.out 0
      have a_e11_0 : ∀ o, (W11.alloc o).cell? ⟨W2.heap.size, 0, none⟩ = some (.int .i64 (l.length : Int)) := fun o => keepR c_e11_0 ((Below.refl _ _).alloc (Nat.le_refl _) o)
      have c_e11_1 : W11.cell? ⟨W2.heap.size, 1, none⟩ = some (.slice ao_ev L_ev cap_ev) := row_at r_e11.out 1
      have a_e11_1 : ∀ o, (W11.alloc o).cell? ⟨W2.heap.size, 1, none⟩ = some (.slice ao_ev L_ev cap_ev) := fun o => keepR c_e11_1 ((Below.refl _ _).alloc (Nat.le_refl _) o)
      have c_ar11_0 : W11.cell? ⟨W4.heap.size, 0, none⟩ = some (.int .i64 (l.length : Int)) := row_at r_ar11.out 0
      have a_ar11_0 : ∀ o, (W11.alloc o).cell? ⟨W4.heap.size, 0, none⟩ = some (.int .i64 (l.length : Int)) := fun o => keepR c_ar11_0 ((Below.refl _ _).alloc (Nat.le_refl _) o)
      have c_ar11_1 : W11.cell? ⟨W4.heap.size, 1, none⟩ = some (.slice ao_av L_av cap_av) := row_at r_ar11.out 1
      have a_ar11_1 : ∀ o, (W11.alloc o).cell? ⟨W4.heap.size, 1, none⟩ = some (.slice ao_av L_av cap_av) := fun o => keepR c_ar11_1 ((Below.refl _ _).alloc (Nat.le_refl _) o)
      have c_b11_0 : W11.cell? ⟨W8.heap.size, 0, none⟩ = some (.int .i64 n2) := row_at r_b11.out 0
      have a_b11_0 : ∀ o, (W11.alloc o).cell? ⟨W8.heap.size, 0, none⟩ = some (.int .i64 n2) := fun o => keepR c_b11_0 ((Below.refl _ _).alloc (Nat.le_refl _) o)
      have c_b11_1 : W11.cell? ⟨W8.heap.size, 1, none⟩ = some (.slice ao_bv L_bv cap_bv) := row_at r_b11.out 1
      have a_b11_1 : ∀ o, (W11.alloc o).cell? ⟨W8.heap.size, 1, none⟩ = some (.slice ao_bv L_bv cap_bv) := fun o => keepR c_b11_1 ((Below.refl _ _).alloc (Nat.le_refl _) o)
      clear r_e10 c_e10_0 c_e10_1 a_e10_0 a_e10_1 r_ar10 c_ar10_0 c_ar10_1 a_ar10_0 a_ar10_1 r_b10 c_b10_0 c_b10_1 a_b10_0 a_b10_1 o_lv10 o_ev10 o_pv10 o_av10 o_bv10
      have D11 : Hid (Below W1.heap.size W1 W11) := D10.out.trans (b11.mono D10.out.size)
      go_wp2_with fail
      refine (qR0 W11 _ B11.out o_lv11.out.sl).mono ?_
      rintro e W12 ⟨rfl, b12⟩
      have z12 : W11.heap.size ≤ W12.heap.size := b12.size
      have B12 : Hid (Below w.heap.size w W12) := B11.out.trans (b12.mono B11.out.size)
      have r_e12 : Hid (W12.heap[W2.heap.size]? = some (.cells #[.int .i64 (l.length : Int), .slice ao_ev L_ev cap_ev] 34 (0, 0))) := rowKeep r_e11.out b12
      have r_ar12 : Hid (W12.heap[W4.heap.size]? = some (.cells #[.int .i64 (l.length : Int), .slice ao_av L_av cap_av] 34 (0, 0))) := rowKeep r_ar11.out b12
      have r_b12 : Hid (W12.heap[W8.heap.size]? = some (.cells #[.int .i64 n2, .slice ao_bv L_bv cap_bv] 34 (0, 0))) := rowKeep r_b11.out b12
      have o_lv12 : Hid (Own W12 (w.heap.size) (W1.heap.size) 9 (.slice (some ⟨b, off, none⟩) l.length cap) (ss l)) := Own.later o_lv11.out b12 (by omega)
      have o_ev12 : Hid (Own W12 (W1.heap.size) (W2.heap.size) 9 (.slice ao_ev L_ev cap_ev) (ss (edge l))) := Own.later o_ev11.out b12 (by omega)
      have o_pv12 : Hid (Own W12 (W3.heap.size) (W4.heap.size) 9 (.slice ao_pv L_pv cap_pv) (ss (edge (l.take i)))) := Own.later o_pv11.out b12 (by omega)
      have o_av12 : Hid (Own W12 (W5.heap.size) (W6.heap.size) 9 (.slice ao_av L_av cap_av) (ss (edge l))) := Own.later o_av11.out b12 (by omega)
      have o_bv12 : Hid (Own W12 (W7.heap.size) (W8.heap.size) 9 (.slice ao_bv L_bv cap_bv) (ss E2)) := Own.later o_bv11.out b12 (by omega)
      have c_e12_0 : W12.cell? ⟨W2.heap.size, 0, none⟩ = some (.int .i64 (l.length : Int)) := row_at r_e12.out 0
      have a_e12_0 : ∀ o, (W12.alloc o).cell? ⟨W2.heap.size, 0, none⟩ = some (.int .i64 (l.length : Int)) := fun o => keepR c_e12_0 ((Below.refl _ _).alloc (Nat.le_refl _) o)
      have c_e12_1 : W12.cell? ⟨W2.heap.size, 1, none⟩ = some (.slice ao_ev L_ev cap_ev) := row_at r_e12.out 1
      have a_e12_1 : ∀ o, (W12.alloc o).cell? ⟨W2.heap.size, 1, none⟩ = some (.slice ao_ev L_ev cap_ev) := fun o => keepR c_e12_1 ((Below.refl _ _).alloc (Nat.le_refl _) o)
      have c_ar12_0 : W12.cell? ⟨W4.heap.size, 0, none⟩ = some (.int .i64 (l.length : Int)) := row_at r_ar12.out 0
      have a_ar12_0 : ∀ o, (W12.alloc o).cell? ⟨W4.heap.size, 0, none⟩ = some (.int .i64 (l.length : Int)) := fun o => keepR c_ar12_0 ((Below.refl _ _).alloc (Nat.le_refl _) o)
      have c_ar12_1 : W12.cell? ⟨W4.heap.size, 1, none⟩ = some (.slice ao_av L_av cap_av) := row_at r_ar12.out 1
      have a_ar12_1 : ∀ o, (W12.alloc o).cell? ⟨W4.heap.size, 1, none⟩ = some (.slice ao_av L_av cap_av) := fun o => keepR c_ar12_1 ((Below.refl _ _).alloc (Nat.le_refl _) o)
      have c_b12_0 : W12.cell? ⟨W8.heap.size, 0, none⟩ = some (.int .i64 n2) := row_at r_b12.out 0
      have a_b12_0 : ∀ o, (W12.alloc o).cell? ⟨W8.heap.size, 0, none⟩ = some (.int .i64 n2) := fun o => keepR c_b12_0 ((Below.refl _ _).alloc (Nat.le_refl _) o)
      have c_b12_1 : W12.cell? ⟨W8.heap.size, 1, none⟩ = some (.slice ao_bv L_bv cap_bv) := row_at r_b12.out 1
      have a_b12_1 : ∀ o, (W12.alloc o).cell? ⟨W8.heap.size, 1, none⟩ = some (.slice ao_bv L_bv cap_bv) := fun o => keepR c_b12_1 ((Below.refl _ _).alloc (Nat.le_refl _) o)
      clear r_e11 c_e11_0 c_e11_1 a_e11_0 a_e11_1 r_ar11 c_ar11_0 c_ar11_1 a_ar11_0 a_ar11_1 r_b11 c_b11_0 c_b11_1 a_b11_0 a_b11_1 o_lv11 o_ev11 o_pv11 o_av11 o_bv11
      have D12 : Hid (Below W1.heap.size W1 W12) := D11.out.trans (b12.mono D11.out.size)
      go_wp2_with fail
      refine (same_true W12 _ _ (edge l) o_av12.out.sl o_ev12.out.sl (by omega)).mono ?_
      rintro e W13 ⟨rfl, h13, _⟩
      have b13 : Below W12.heap.size W12 W13 := h13 _
      clear h13
      have z13 : W12.heap.size ≤ W13.heap.size := b13.size
      have B13 : Hid (Below w.heap.size w W13) := B12.out.trans (b13.mono B12.out.size)
      have r_e13 : Hid (W13.heap[W2.heap.size]? = some (.cells #[.int .i64 (l.length : Int), .slice ao_ev L_ev cap_ev] 34 (0, 0))) := rowKeep r_e12.out b13
      have r_ar13 : Hid (W13.heap[W4.heap.size]? = some (.cells #[.int .i64 (l.length : Int), .slice ao_av L_av cap_av] 34 (0, 0))) := rowKeep r_ar12.out b13
      have r_b13 : Hid (W13.heap[W8.heap.size]? = some (.cells #[.int .i64 n2, .slice ao_bv L_bv cap_bv] 34 (0, 0))) := rowKeep r_b12.out b13
      have o_lv13 : Hid (Own W13 (w.heap.size) (W1.heap.size) 9 (.slice (some ⟨b, off, none⟩) l.length cap) (ss l)) := Own.later o_lv12.out b13 (by omega)
      have o_ev13 : Hid (Own W13 (W1.heap.size) (W2.heap.size) 9 (.slice ao_ev L_ev cap_ev) (ss (edge l))) := Own.later o_ev12.out b13 (by omega)
      have o_pv13 : Hid (Own W13 (W3.heap.size) (W4.heap.size) 9 (.slice ao_pv L_pv cap_pv) (ss (edge (l.take i)))) := Own.later o_pv12.out b13 (by omega)
      have o_av13 : Hid (Own W13 (W5.heap.size) (W6.heap.size) 9 (.slice ao_av L_av cap_av) (ss (edge l))) := Own.later o_av12.out b13 (by omega)
      have o_bv13 : Hid (Own W13 (W7.heap.size) (W8.heap.size) 9 (.slice ao_bv L_bv cap_bv) (ss E2)) := Own.later o_bv12.out b13 (by omega)
      have c_e13_0 : W13.cell? ⟨W2.heap.size, 0, none⟩ = some (.int .i64 (l.length : Int)) := row_at r_e13.out 0
      have a_e13_0 : ∀ o, (W13.alloc o).cell? ⟨W2.heap.size, 0, none⟩ = some (.int .i64 (l.length : Int)) := fun o => keepR c_e13_0 ((Below.refl _ _).alloc (Nat.le_refl _) o)
      have c_e13_1 : W13.cell? ⟨W2.heap.size, 1, none⟩ = some (.slice ao_ev L_ev cap_ev) := row_at r_e13.out 1
      have a_e13_1 : ∀ o, (W13.alloc o).cell? ⟨W2.heap.size, 1, none⟩ = some (.slice ao_ev L_ev cap_ev) := fun o => keepR c_e13_1 ((Below.refl _ _).alloc (Nat.le_refl _) o)
      have c_ar13_0 : W13.cell? ⟨W4.heap.size, 0, none⟩ = some (.int .i64 (l.length : Int)) := row_at r_ar13.out 0
      have a_ar13_0 : ∀ o, (W13.alloc o).cell? ⟨W4.heap.size, 0, none⟩ = some (.int .i64 (l.length : Int)) := fun o => keepR c_ar13_0 ((Below.refl _ _).alloc (Nat.le_refl _) o)
      have c_ar13_1 : W13.cell? ⟨W4.heap.size, 1, none⟩ = some (.slice ao_av L_av cap_av) := row_at r_ar13.out 1
      have a_ar13_1 : ∀ o, (W13.alloc o).cell? ⟨W4.heap.size, 1, none⟩ = some (.slice ao_av L_av cap_av) := fun o => keepR c_ar13_1 ((Below.refl _ _).alloc (Nat.le_refl _) o)
      have c_b13_0 : W13.cell? ⟨W8.heap.size, 0, none⟩ = some (.int .i64 n2) := row_at r_b13.out 0
      have a_b13_0 : ∀ o, (W13.alloc o).cell? ⟨W8.heap.size, 0, none⟩ = some (.int .i64 n2) := fun o => keepR c_b13_0 ((Below.refl _ _).alloc (Nat.le_refl _) o)
      have c_b13_1 : W13.cell? ⟨W8.heap.size, 1, none⟩ = some (.slice ao_bv L_bv cap_bv) := row_at r_b13.out 1
      have a_b13_1 : ∀ o, (W13.alloc o).cell? ⟨W8.heap.size, 1, none⟩ = some (.slice ao_bv L_bv cap_bv) := fun o => keepR c_b13_1 ((Below.refl _ _).alloc (Nat.le_refl _) o)
      clear r_e12 c_e12_0 c_e12_1 a_e12_0 a_e12_1 r_ar12 c_ar12_0 c_ar12_1 a_ar12_0 a_ar12_1 r_b12 c_b12_0 c_b12_1 a_b12_0 a_b12_1 o_lv12 o_ev12 o_pv12 o_av12 o_bv12
      have D13 : Hid (Below W1.heap.size W1 W13) := D12.out.trans (b13.mono D12.out.size)
      go_wp2_with fail
      refine (qR2 W13 _ B13.out o_bv13.out.sl).mono ?_
      rintro e W14 ⟨rfl, b14⟩
      have z14 : W13.heap.size ≤ W14.heap.size := b14.size
      have B14 : Hid (Below w.heap.size w W14) := B13.out.trans (b14.mono B13.out.size)
      have r_e14 : Hid (W14.heap[W2.heap.size]? = some (.cells #[.int .i64 (l.length : Int), .slice ao_ev L_ev cap_ev] 34 (0, 0))) := rowKeep r_e13.out b14
      have r_ar14 : Hid (W14.heap[W4.heap.size]? = some (.cells #[.int .i64 (l.length : Int), .slice ao_av L_av cap_av] 34 (0, 0))) := rowKeep r_ar13.out b14
      have r_b14 : Hid (W14.heap[W8.heap.size]? = some (.cells #[.int .i64 n2, .slice ao_bv L_bv cap_bv] 34 (0, 0))) := rowKeep r_b13.out b14
      have o_lv14 : Hid (Own W14 (w.heap.size) (W1.heap.size) 9 (.slice (some ⟨b, off, none⟩) l.length cap) (ss l)) := Own.later o_lv13.out b14 (by omega)
      have o_ev14 : Hid (Own W14 (W1.heap.size) (W2.heap.size) 9 (.slice ao_ev L_ev cap_ev) (ss (edge l))) := Own.later o_ev13.out b14 (by omega)
      have o_pv14 : Hid (Own W14 (W3.heap.size) (W4.heap.size) 9 (.slice ao_pv L_pv cap_pv) (ss (edge (l.take i)))) := Own.later o_pv13.out b14 (by omega)
      have o_av14 : Hid (Own W14 (W5.heap.size) (W6.heap.size) 9 (.slice ao_av L_av cap_av) (ss (edge l))) := Own.later o_av13.out b14 (by omega)
      have o_bv14 : Hid (Own W14 (W7.heap.size) (W8.heap.size) 9 (.slice ao_bv L_bv cap_bv) (ss E2)) := Own.later o_bv13.out b14 (by omega)
      have c_e14_0 : W14.cell? ⟨W2.heap.size, 0, none⟩ = some (.int .i64 (l.length : Int)) := row_at r_e14.out 0
      have a_e14_0 : ∀ o, (W14.alloc o).cell? ⟨W2.heap.size, 0, none⟩ = some (.int .i64 (l.length : Int)) := fun o => keepR c_e14_0 ((Below.refl _ _).alloc (Nat.le_refl _) o)
      have c_e14_1 : W14.cell? ⟨W2.heap.size, 1, none⟩ = some (.slice ao_ev L_ev cap_ev) := row_at r_e14.out 1
      have a_e14_1 : ∀ o, (W14.alloc o).cell? ⟨W2.heap.size, 1, none⟩ = some (.slice ao_ev L_ev cap_ev) := fun o => keepR c_e14_1 ((Below.refl _ _).alloc (Nat.le_refl _) o)
      have c_ar14_0 : W14.cell? ⟨W4.heap.size, 0, none⟩ = some (.int .i64 (l.length : Int)) := row_at r_ar14.out 0
      have a_ar14_0 : ∀ o, (W14.alloc o).cell? ⟨W4.heap.size, 0, none⟩ = some (.int .i64 (l.length : Int)) := fun o => keepR c_ar14_0 ((Below.refl _ _).alloc (Nat.le_refl _) o)
      have c_ar14_1 : W14.cell? ⟨W4.heap.size, 1, none⟩ = some (.slice ao_av L_av cap_av) := row_at r_ar14.out 1
      have a_ar14_1 : ∀ o, (W14.alloc o).cell? ⟨W4.heap.size, 1, none⟩ = some (.slice ao_av L_av cap_av) := fun o => keepR c_ar14_1 ((Below.refl _ _).alloc (Nat.le_refl _) o)
      have c_b14_0 : W14.cell? ⟨W8.heap.size, 0, none⟩ = some (.int .i64 n2) := row_at r_b14.out 0
      have a_b14_0 : ∀ o, (W14.alloc o).cell? ⟨W8.heap.size, 0, none⟩ = some (.int .i64 n2) := fun o => keepR c_b14_0 ((Below.refl _ _).alloc (Nat.le_refl _) o)
      have c_b14_1 : W14.cell? ⟨W8.heap.size, 1, none⟩ = some (.slice ao_bv L_bv cap_bv) := row_at r_b14.out 1
      have a_b14_1 : ∀ o, (W14.alloc o).cell? ⟨W8.heap.size, 1, none⟩ = some (.slice ao_bv L_bv cap_bv) := fun o => keepR c_b14_1 ((Below.refl _ _).alloc (Nat.le_refl _) o)
      clear r_e13 c_e13_0 c_e13_1 a_e13_0 a_e13_1 r_ar13 c_ar13_0 c_ar13_1 a_ar13_0 a_ar13_1 r_b13 c_b13_0 c_b13_1 a_b13_0 a_b13_1 o_lv13 o_ev13 o_pv13 o_av13 o_bv13
      have D14 : Hid (Below W1.heap.size W1 W14) := D13.out.trans (b14.mono D13.out.size)
      have hL8 : (L_ev : Int) ≤ 8 := by
        obtain ⟨_, L9, _, he, h1, _⟩ := Mem.Own.form o_ev14.out
        simp only [Value.slice.injEq] at he
        rw [ss_len] at h1
        omega
      have zz14 : W14.heap.size ≤ (W14.alloc (.cells #[] 9)).heap.size := by simp
      go_wp2_with (at_builtin; go_must (refine wpl_app _ rfl (.tmp 77) (.tmp 78) 24 rfl 9 i0 (.string ⟨#[]⟩) 16 Tryd.underlying24 hi hz0 hz1 hz2 rfl W14.heap.size _ _ rfl (emptyT W14 W14.heap.size (Nat.le_refl _)) _ rfl (ss l) ((o_lv14.out.sl).later ((Below.refl _ _).alloc (Nat.le_refl _) _)) (ss_one l) c6 c7 zz14 ?_))
      intro v_p W15 o_p15 b15 g15
      have b15 : Below W14.heap.size W14 W15 := ((Below.refl _ _).alloc (Nat.le_refl _) _).trans b15
      clear g15 zz14
      have o_p15 : Own W15 W14.heap.size W15.heap.size 9 v_p (ss l) := o_p15
      obtain ⟨ao_p, L_p, cap_p, rfl, hL_p, hM_p⟩ := o_p15.form
      have o_p15 : Hid (Own W15 W14.heap.size W15.heap.size 9 (.slice ao_p L_p cap_p) (ss l)) := o_p15
      clear hL_p hM_p
      have z15 : W14.heap.size ≤ W15.heap.size := b15.size
      have B15 : Hid (Below w.heap.size w W15) := B14.out.trans (b15.mono B14.out.size)
      have r_e15 : Hid (W15.heap[W2.heap.size]? = some (.cells #[.int .i64 (l.length : Int), .slice ao_ev L_ev cap_ev] 34 (0, 0))) := rowKeep r_e14.out b15
      have r_ar15 : Hid (W15.heap[W4.heap.size]? = some (.cells #[.int .i64 (l.length : Int), .slice ao_av L_av cap_av] 34 (0, 0))) := rowKeep r_ar14.out b15
      have r_b15 : Hid (W15.heap[W8.heap.size]? = some (.cells #[.int .i64 n2, .slice ao_bv L_bv cap_bv] 34 (0, 0))) := rowKeep r_b14.out b15
      have o_lv15 : Hid (Own W15 (w.heap.size) (W1.heap.size) 9 (.slice (some ⟨b, off, none⟩) l.length cap) (ss l)) := Own.later o_lv14.out b15 (by omega)
      have o_ev15 : Hid (Own W15 (W1.heap.size) (W2.heap.size) 9 (.slice ao_ev L_ev cap_ev) (ss (edge l))) := Own.later o_ev14.out b15 (by omega)
      have o_pv15 : Hid (Own W15 (W3.heap.size) (W4.heap.size) 9 (.slice ao_pv L_pv cap_pv) (ss (edge (l.take i)))) := Own.later o_pv14.out b15 (by omega)
      have o_av15 : Hid (Own W15 (W5.heap.size) (W6.heap.size) 9 (.slice ao_av L_av cap_av) (ss (edge l))) := Own.later o_av14.out b15 (by omega)
      have o_bv15 : Hid (Own W15 (W7.heap.size) (W8.heap.size) 9 (.slice ao_bv L_bv cap_bv) (ss E2)) := Own.later o_bv14.out b15 (by omega)
      have c_e15_0 : W15.cell? ⟨W2.heap.size, 0, none⟩ = some (.int .i64 (l.length : Int)) := row_at r_e15.out 0
      have a_e15_0 : ∀ o, (W15.alloc o).cell? ⟨W2.heap.size, 0, none⟩ = some (.int .i64 (l.length : Int)) := fun o => keepR c_e15_0 ((Below.refl _ _).alloc (Nat.le_refl _) o)
      have c_e15_1 : W15.cell? ⟨W2.heap.size, 1, none⟩ = some (.slice ao_ev L_ev cap_ev) := row_at r_e15.out 1
      have a_e15_1 : ∀ o, (W15.alloc o).cell? ⟨W2.heap.size, 1, none⟩ = some (.slice ao_ev L_ev cap_ev) := fun o => keepR c_e15_1 ((Below.refl _ _).alloc (Nat.le_refl _) o)
      have c_ar15_0 : W15.cell? ⟨W4.heap.size, 0, none⟩ = some (.int .i64 (l.length : Int)) := row_at r_ar15.out 0
      have a_ar15_0 : ∀ o, (W15.alloc o).cell? ⟨W4.heap.size, 0, none⟩ = some (.int .i64 (l.length : Int)) := fun o => keepR c_ar15_0 ((Below.refl _ _).alloc (Nat.le_refl _) o)
      have c_ar15_1 : W15.cell? ⟨W4.heap.size, 1, none⟩ = some (.slice ao_av L_av cap_av) := row_at r_ar15.out 1
      have a_ar15_1 : ∀ o, (W15.alloc o).cell? ⟨W4.heap.size, 1, none⟩ = some (.slice ao_av L_av cap_av) := fun o => keepR c_ar15_1 ((Below.refl _ _).alloc (Nat.le_refl _) o)
      have c_b15_0 : W15.cell? ⟨W8.heap.size, 0, none⟩ = some (.int .i64 n2) := row_at r_b15.out 0
      have a_b15_0 : ∀ o, (W15.alloc o).cell? ⟨W8.heap.size, 0, none⟩ = some (.int .i64 n2) := fun o => keepR c_b15_0 ((Below.refl _ _).alloc (Nat.le_refl _) o)
      have c_b15_1 : W15.cell? ⟨W8.heap.size, 1, none⟩ = some (.slice ao_bv L_bv cap_bv) := row_at r_b15.out 1
      have a_b15_1 : ∀ o, (W15.alloc o).cell? ⟨W8.heap.size, 1, none⟩ = some (.slice ao_bv L_bv cap_bv) := fun o => keepR c_b15_1 ((Below.refl _ _).alloc (Nat.le_refl _) o)
      clear r_e14 c_e14_0 c_e14_1 a_e14_0 a_e14_1 r_ar14 c_ar14_0 c_ar14_1 a_ar14_0 a_ar14_1 r_b14 c_b14_0 c_b14_1 a_b14_0 a_b14_1 o_lv14 o_ev14 o_pv14 o_av14 o_bv14
      have D15 : Hid (Below W1.heap.size W1 W15) := D14.out.trans (b15.mono D14.out.size)
      have zz15 : W14.heap.size ≤ (W15.alloc (.cells #[.string ⟨#[120]⟩] 9)).heap.size := by simp; omega
      go_wp2_with (at_builtin; go_must (refine wpl_app _ rfl (.tmp 79) (.tmp 80) 24 rfl 9 i0 (.string ⟨#[]⟩) 16 Tryd.underlying24 hi hz0 hz1 hz2 rfl W14.heap.size _ _ rfl (o_p15.out.alloc _) _ rfl [.string ⟨#[120]⟩] (Laws.Sl.one _ _ _) (oneT _) c8 c9 zz15 ?_))
      intro v_s W16 o_s16 b16 g16
      have b16 : Below W14.heap.size W15 W16 := ((Below.refl _ _).alloc (by omega) _).trans b16
      clear g16 zz15
      have o_s16 : Own W16 W14.heap.size W16.heap.size 9 v_s (ss (l ++ [⟨#[120]⟩])) := by rw [ss_app]; exact o_s16
      have B16 : Hid (Below w.heap.size w W16) := B15.out.trans (b16.mono (by have := B14.out.size; omega))
      have k_e : W16.cell? ⟨W2.heap.size, 1, none⟩ = some (.slice ao_ev L_ev cap_ev) := (b16.cell (by show W2.heap.size < _; omega)).trans c_e15_1
      have qz := qRz W16 _ B16.out o_s16.sl
      go_wp2_with fail
      refine qz.mono ?_
      rintro e W17 ⟨rfl, b17⟩
      have k_e2 := keepR k_e b17
      have BB : Below w.heap.size w W17 := B16.out.trans (b17.mono B16.out.size)
      go_wp2
      go_ret
      exact ⟨rfl, BB⟩
  · go_simp
    refine hK.out _ _ trivial (fun hHeld => ?_)
    clear hK K
    try simp only [Act.put, List.setIfInBounds_toArray, List.set_cons_zero, List.set_cons_succ, List.getElem_toArray, List.getElem_cons_zero, List.getElem_cons_succ]
    obtain ⟨W4, HW4, b4, y4, r_ar4⟩ : ∃ X, Hid ((W3.alloc (.cells #[.int .i64 0, .slice none 0 0] 34)).drew = X) ∧ Below W3.heap.size W3 X ∧ W3.heap.size + 1 ≤ X.heap.size ∧ Hid (X.heap[W3.heap.size]? = some (.cells #[.int .i64 0, .slice none 0 0] 34 (0, 0))) := ⟨_, rfl, (Below.drew ((Below.refl _ _).alloc (Nat.le_refl _) _)), (by show _ ≤ (W3.heap.push _).size; simp), heap_alloc_new W3 _⟩
    rw [HW4.out]
    have z4 : W3.heap.size ≤ W4.heap.size := b4.size
    have B4 : Hid (Below w.heap.size w W4) := B3.out.trans (b4.mono B3.out.size)
    have r_e4 : Hid (W4.heap[W2.heap.size]? = some (.cells #[.int .i64 (l.length : Int), .slice ao_ev L_ev cap_ev] 34 (0, 0))) := rowKeep r_e3.out b4
    have o_lv4 : Hid (Own W4 (w.heap.size) (W1.heap.size) 9 (.slice (some ⟨b, off, none⟩) l.length cap) (ss l)) := Own.later o_lv3.out b4 (by omega)
    have o_ev4 : Hid (Own W4 (W1.heap.size) (W2.heap.size) 9 (.slice ao_ev L_ev cap_ev) (ss (edge l))) := Own.later o_ev3.out b4 (by omega)
    have c_e4_0 : W4.cell? ⟨W2.heap.size, 0, none⟩ = some (.int .i64 (l.length : Int)) := row_at r_e4.out 0
    have a_e4_0 : ∀ o, (W4.alloc o).cell? ⟨W2.heap.size, 0, none⟩ = some (.int .i64 (l.length : Int)) := fun o => keepR c_e4_0 ((Below.refl _ _).alloc (Nat.le_refl _) o)
    have c_e4_1 : W4.cell? ⟨W2.heap.size, 1, none⟩ = some (.slice ao_ev L_ev cap_ev) := row_at r_e4.out 1
    have a_e4_1 : ∀ o, (W4.alloc o).cell? ⟨W2.heap.size, 1, none⟩ = some (.slice ao_ev L_ev cap_ev) := fun o => keepR c_e4_1 ((Below.refl _ _).alloc (Nat.le_refl _) o)
    have c_ar4_0 : W4.cell? ⟨W3.heap.size, 0, none⟩ = some (.int .i64 0) := row_at r_ar4.out 0
    have a_ar4_0 : ∀ o, (W4.alloc o).cell? ⟨W3.heap.size, 0, none⟩ = some (.int .i64 0) := fun o => keepR c_ar4_0 ((Below.refl _ _).alloc (Nat.le_refl _) o)
    have c_ar4_1 : W4.cell? ⟨W3.heap.size, 1, none⟩ = some (.slice none 0 0) := row_at r_ar4.out 1
    have a_ar4_1 : ∀ o, (W4.alloc o).cell? ⟨W3.heap.size, 1, none⟩ = some (.slice none 0 0) := fun o => keepR c_ar4_1 ((Below.refl _ _).alloc (Nat.le_refl _) o)
    clear r_e3 c_e3_0 c_e3_1 a_e3_0 a_e3_1 o_lv3 o_ev3
    have D4 : Hid (Below W1.heap.size W1 W4) := D3.out.trans (b4.mono D3.out.size)
    refine wpAnyH_ready (rs := [3]) (by kernel_rfl) (by simp) ?_
    refine AllReadyH.cons rfl (fun K hK => ?_) AllReadyH.nil
    go_simp
    refine (qP W4 _ B4.out (sP _ D4.out)).mono ?_
    rintro e W5 ⟨v_pv, rfl, o_pv5, b5⟩
    refine hK.out _ _ trivial (fun hHeld => ?_)
    clear hK K
    try simp only [Act.put, List.setIfInBounds_toArray, List.set_cons_zero, List.set_cons_succ, List.getElem_toArray, List.getElem_cons_zero, List.getElem_cons_succ]
    obtain ⟨ao_pv, L_pv, cap_pv, rfl, hL_pv, hM_pv⟩ := o_pv5.form
    have o_pv5 : Hid (Own W5 W4.heap.size W5.heap.size 9 (.slice ao_pv L_pv cap_pv) (ss (edge (l.take i)))) := o_pv5
    clear hL_pv hM_pv
    have z5 : W4.heap.size ≤ W5.heap.size := b5.size
    have B5 : Hid (Below w.heap.size w W5) := B4.out.trans (b5.mono B4.out.size)
    have r_e5 : Hid (W5.heap[W2.heap.size]? = some (.cells #[.int .i64 (l.length : Int), .slice ao_ev L_ev cap_ev] 34 (0, 0))) := rowKeep r_e4.out b5
    have r_ar5 : Hid (W5.heap[W3.heap.size]? = some (.cells #[.int .i64 0, .slice none 0 0] 34 (0, 0))) := rowKeep r_ar4.out b5
    have o_lv5 : Hid (Own W5 (w.heap.size) (W1.heap.size) 9 (.slice (some ⟨b, off, none⟩) l.length cap) (ss l)) := Own.later o_lv4.out b5 (by omega)
    have o_ev5 : Hid (Own W5 (W1.heap.size) (W2.heap.size) 9 (.slice ao_ev L_ev cap_ev) (ss (edge l))) := Own.later o_ev4.out b5 (by omega)
    have c_e5_0 : W5.cell? ⟨W2.heap.size, 0, none⟩ = some (.int .i64 (l.length : Int)) := row_at r_e5.out 0
    have a_e5_0 : ∀ o, (W5.alloc o).cell? ⟨W2.heap.size, 0, none⟩ = some (.int .i64 (l.length : Int)) := fun o => keepR c_e5_0 ((Below.refl _ _).alloc (Nat.le_refl _) o)
    have c_e5_1 : W5.cell? ⟨W2.heap.size, 1, none⟩ = some (.slice ao_ev L_ev cap_ev) := row_at r_e5.out 1
    have a_e5_1 : ∀ o, (W5.alloc o).cell? ⟨W2.heap.size, 1, none⟩ = some (.slice ao_ev L_ev cap_ev) := fun o => keepR c_e5_1 ((Below.refl _ _).alloc (Nat.le_refl _) o)
    have c_ar5_0 : W5.cell? ⟨W3.heap.size, 0, none⟩ = some (.int .i64 0) := row_at r_ar5.out 0
    have a_ar5_0 : ∀ o, (W5.alloc o).cell? ⟨W3.heap.size, 0, none⟩ = some (.int .i64 0) := fun o => keepR c_ar5_0 ((Below.refl _ _).alloc (Nat.le_refl _) o)
    have c_ar5_1 : W5.cell? ⟨W3.heap.size, 1, none⟩ = some (.slice none 0 0) := row_at r_ar5.out 1
    have a_ar5_1 : ∀ o, (W5.alloc o).cell? ⟨W3.heap.size, 1, none⟩ = some (.slice none 0 0) := fun o => keepR c_ar5_1 ((Below.refl _ _).alloc (Nat.le_refl _) o)
    clear r_e4 c_e4_0 c_e4_1 a_e4_0 a_e4_1 r_ar4 c_ar4_0 c_ar4_1 a_ar4_0 a_ar4_1 o_lv4 o_ev4
    have D5 : Hid (Below W1.heap.size W1 W5) := D4.out.trans (b5.mono D4.out.size)
    refine wpAnyH_ready (rs := [7]) (by kernel_rfl) (by simp) ?_
    refine AllReadyH.cons rfl (fun K hK => ?_) AllReadyH.nil
    go_simp
    refine (qL W5 _ _ B5.out o_pv5.out.sl (sD _ D5.out)).mono ?_
    rintro e W6 ⟨v_av, rfl, o_av6, b6⟩
    refine hK.out _ _ trivial (fun hHeld => ?_)
    clear hK K
    try simp only [Act.put, List.setIfInBounds_toArray, List.set_cons_zero, List.set_cons_succ, List.getElem_toArray, List.getElem_cons_zero, List.getElem_cons_succ]
    obtain ⟨ao_av, L_av, cap_av, rfl, hL_av, hM_av⟩ := o_av6.form
    have o_av6 : Hid (Own W6 W5.heap.size W6.heap.size 9 (.slice ao_av L_av cap_av) (ss (edge l))) := o_av6
    clear hL_av hM_av
    have z6 : W5.heap.size ≤ W6.heap.size := b6.size
    have B6 : Hid (Below w.heap.size w W6) := B5.out.trans (b6.mono B5.out.size)
    have r_e6 : Hid (W6.heap[W2.heap.size]? = some (.cells #[.int .i64 (l.length : Int), .slice ao_ev L_ev cap_ev] 34 (0, 0))) := rowKeep r_e5.out b6
    have r_ar6 : Hid (W6.heap[W3.heap.size]? = some (.cells #[.int .i64 0, .slice none 0 0] 34 (0, 0))) := rowKeep r_ar5.out b6
    have o_lv6 : Hid (Own W6 (w.heap.size) (W1.heap.size) 9 (.slice (some ⟨b, off, none⟩) l.length cap) (ss l)) := Own.later o_lv5.out b6 (by omega)
    have o_ev6 : Hid (Own W6 (W1.heap.size) (W2.heap.size) 9 (.slice ao_ev L_ev cap_ev) (ss (edge l))) := Own.later o_ev5.out b6 (by omega)
    have o_pv6 : Hid (Own W6 (W4.heap.size) (W5.heap.size) 9 (.slice ao_pv L_pv cap_pv) (ss (edge (l.take i)))) := Own.later o_pv5.out b6 (by omega)
    have c_e6_0 : W6.cell? ⟨W2.heap.size, 0, none⟩ = some (.int .i64 (l.length : Int)) := row_at r_e6.out 0
    have a_e6_0 : ∀ o, (W6.alloc o).cell? ⟨W2.heap.size, 0, none⟩ = some (.int .i64 (l.length : Int)) := fun o => keepR c_e6_0 ((Below.refl _ _).alloc (Nat.le_refl _) o)
    have c_e6_1 : W6.cell? ⟨W2.heap.size, 1, none⟩ = some (.slice ao_ev L_ev cap_ev) := row_at r_e6.out 1
    have a_e6_1 : ∀ o, (W6.alloc o).cell? ⟨W2.heap.size, 1, none⟩ = some (.slice ao_ev L_ev cap_ev) := fun o => keepR c_e6_1 ((Below.refl _ _).alloc (Nat.le_refl _) o)
    have c_ar6_0 : W6.cell? ⟨W3.heap.size, 0, none⟩ = some (.int .i64 0) := row_at r_ar6.out 0
    have a_ar6_0 : ∀ o, (W6.alloc o).cell? ⟨W3.heap.size, 0, none⟩ = some (.int .i64 0) := fun o => keepR c_ar6_0 ((Below.refl _ _).alloc (Nat.le_refl _) o)
    have c_ar6_1 : W6.cell? ⟨W3.heap.size, 1, none⟩ = some (.slice none 0 0) := row_at r_ar6.out 1
    have a_ar6_1 : ∀ o, (W6.alloc o).cell? ⟨W3.heap.size, 1, none⟩ = some (.slice none 0 0) := fun o => keepR c_ar6_1 ((Below.refl _ _).alloc (Nat.le_refl _) o)
    clear r_e5 c_e5_0 c_e5_1 a_e5_0 a_e5_1 r_ar5 c_ar5_0 c_ar5_1 a_ar5_0 a_ar5_1 o_lv5 o_ev5 o_pv5
    have D6 : Hid (Below W1.heap.size W1 W6) := D5.out.trans (b6.mono D5.out.size)
    (refine wpAnyH_take (i := 8) (v := ?v8x15) rfl (by kernel_rfl) (by kernel_rfl) (by kernel_rfl) (fun _ _ _ h => h) (Or.inl ⟨by rfl, ?hy8x15⟩) (by assumption) ?rest8x15; case hy8x15 => (intro w hSw; (try dsimp only at hSw); go_split_ands; go_simp; (try with_reducible rfl)))
    try simp only [Act.put, List.setIfInBounds_toArray, List.set_cons_zero, List.set_cons_succ, List.getElem_toArray, List.getElem_cons_zero, List.getElem_cons_succ]
    (refine wpAnyH_take (i := 9) (v := ?v9x16) rfl (by kernel_rfl) (by kernel_rfl) (by kernel_rfl) (fun _ _ _ h => h) (Or.inl ⟨by rfl, ?hy9x16⟩) (by assumption) ?rest9x16; case hy9x16 => (intro w hSw; (try dsimp only at hSw); go_split_ands; go_simp; (try with_reducible rfl)))
    try simp only [Act.put, List.setIfInBounds_toArray, List.set_cons_zero, List.set_cons_succ, List.getElem_toArray, List.getElem_cons_zero, List.getElem_cons_succ]
    (refine wpAnyH_take (i := 10) (v := ?v10x17) rfl (by kernel_rfl) (by kernel_rfl) (by kernel_rfl) (fun _ _ _ h => h) (Or.inl ⟨by rfl, ?hy10x17⟩) (by assumption) ?rest10x17; case hy10x17 => (intro w hSw; (try dsimp only at hSw); go_split_ands; go_simp; (try with_reducible rfl)))
    try simp only [Act.put, List.setIfInBounds_toArray, List.set_cons_zero, List.set_cons_succ, List.getElem_toArray, List.getElem_cons_zero, List.getElem_cons_succ]
    refine wpAnyH_ready (rs := [12]) (by kernel_rfl) (by simp) ?_
    refine AllReadyH.cons rfl (fun K hK => ?_) AllReadyH.nil
    rw [if_pos (by rfl)]
    refine wp_store_row 34 _ _ rfl (W3.heap.size) (ee (l.length : Int) (.slice ao_av L_av cap_av)) rfl rfl 34 _ r_ar6.out (sizeEd _ _) rfl (oneEd _ rfl) ?_
    refine hK.out _ _ trivial (fun hHeld => ?_)
    clear hK K
    try simp only [Act.put, List.setIfInBounds_toArray, List.set_cons_zero, List.set_cons_succ, List.getElem_toArray, List.getElem_cons_zero, List.getElem_cons_succ]
    have D7a : Below W1.heap.size W1 (W6.setRow (W3.heap.size) (ee (l.length : Int) (.slice ao_av L_av cap_av))) := below_setRow D6.out (by omega) _
    obtain ⟨W7, HW7⟩ : ∃ X, Hid (W6.setRow (W3.heap.size) (ee (l.length : Int) (.slice ao_av L_av cap_av)) = X) := ⟨_, rfl⟩
    have z7 : W6.heap.size ≤ W7.heap.size := by rw [← HW7.out]; simp
    have B7 : Hid (Below w.heap.size w W7) := by show Below _ _ _; rw [← HW7.out]; exact below_setRow B6.out (by have := B6.out.size; omega) _
    have r_e7 : Hid (W7.heap[W2.heap.size]? = some (.cells #[.int .i64 (l.length : Int), .slice ao_ev L_ev cap_ev] 34 (0, 0))) := by show _ = _; rw [← HW7.out]; exact (setRow_other _ _ _ _ (by omega)).trans r_e6.out
    have o_lv7 : Hid (Own W7 (w.heap.size) (W1.heap.size) 9 (.slice (some ⟨b, off, none⟩) l.length cap) (ss l)) := by show Own _ _ _ _ _ _; rw [← HW7.out]; exact Own.setRow o_lv6.out _ (by omega)
    have o_ev7 : Hid (Own W7 (W1.heap.size) (W2.heap.size) 9 (.slice ao_ev L_ev cap_ev) (ss (edge l))) := by show Own _ _ _ _ _ _; rw [← HW7.out]; exact Own.setRow o_ev6.out _ (by omega)
    have o_pv7 : Hid (Own W7 (W4.heap.size) (W5.heap.size) 9 (.slice ao_pv L_pv cap_pv) (ss (edge (l.take i)))) := by show Own _ _ _ _ _ _; rw [← HW7.out]; exact Own.setRow o_pv6.out _ (by omega)
    have o_av7 : Hid (Own W7 (W5.heap.size) (W6.heap.size) 9 (.slice ao_av L_av cap_av) (ss (edge l))) := by show Own _ _ _ _ _ _; rw [← HW7.out]; exact Own.setRow o_av6.out _ (by omega)
    have r_ar7 : Hid (W7.heap[W3.heap.size]? = some (.cells #[.int .i64 (l.length : Int), .slice ao_av L_av cap_av] 34 (0, 0))) := by show _ = _; rw [← HW7.out]; exact setRow_heap _ _ _ _ _ (0, 0) r_ar6.out
    rw [HW7.out]
    clear r_e6 c_e6_0 c_e6_1 a_e6_0 a_e6_1 r_ar6 c_ar6_0 c_ar6_1 a_ar6_0 a_ar6_1 o_lv6 o_ev6 o_pv6 o_av6
    have c_e7_0 : W7.cell? ⟨W2.heap.size, 0, none⟩ = some (.int .i64 (l.length : Int)) := row_at r_e7.out 0
    have a_e7_0 : ∀ o, (W7.alloc o).cell? ⟨W2.heap.size, 0, none⟩ = some (.int .i64 (l.length : Int)) := fun o => keepR c_e7_0 ((Below.refl _ _).alloc (Nat.le_refl _) o)
    have c_e7_1 : W7.cell? ⟨W2.heap.size, 1, none⟩ = some (.slice ao_ev L_ev cap_ev) := row_at r_e7.out 1
    have a_e7_1 : ∀ o, (W7.alloc o).cell? ⟨W2.heap.size, 1, none⟩ = some (.slice ao_ev L_ev cap_ev) := fun o => keepR c_e7_1 ((Below.refl _ _).alloc (Nat.le_refl _) o)
    have c_ar7_0 : W7.cell? ⟨W3.heap.size, 0, none⟩ = some (.int .i64 (l.length : Int)) := row_at r_ar7.out 0
    have a_ar7_0 : ∀ o, (W7.alloc o).cell? ⟨W3.heap.size, 0, none⟩ = some (.int .i64 (l.length : Int)) := fun o => keepR c_ar7_0 ((Below.refl _ _).alloc (Nat.le_refl _) o)
    have c_ar7_1 : W7.cell? ⟨W3.heap.size, 1, none⟩ = some (.slice ao_av L_av cap_av) := row_at r_ar7.out 1
    have a_ar7_1 : ∀ o, (W7.alloc o).cell? ⟨W3.heap.size, 1, none⟩ = some (.slice ao_av L_av cap_av) := fun o => keepR c_ar7_1 ((Below.refl _ _).alloc (Nat.le_refl _) o)
    have D7 : Hid (Below W1.heap.size W1 W7) := by show Below _ _ _; rw [← HW7.out]; exact D7a
    (refine wpAnyH_take (i := 13) (v := ?v13x18) rfl (by kernel_rfl) (by kernel_rfl) (by kernel_rfl) (fun _ _ _ h => h) (Or.inl ⟨by rfl, ?hy13x18⟩) (by assumption) ?rest13x18; case hy13x18 => (intro w hSw; (try dsimp only at hSw); go_split_ands; go_simp; (try with_reducible rfl)))
    try simp only [Act.put, List.setIfInBounds_toArray, List.set_cons_zero, List.set_cons_succ, List.getElem_toArray, List.getElem_cons_zero, List.getElem_cons_succ]
    refine wpAnyH_done (by kernel_rfl) ?_ _
    clear hHeld
    go_wp2_with fail
    refine (qA W7 _ B7.out o_ev7.out.sl).mono ?_
    rintro e W8 ⟨v_bv, rfl, o_bv8, b8⟩
    obtain ⟨ao_bv, L_bv, cap_bv, rfl, hL_bv, hM_bv⟩ := o_bv8.form
    have o_bv8 : Hid (Own W8 W7.heap.size W8.heap.size 9 (.slice ao_bv L_bv cap_bv) (ss E2)) := o_bv8
    clear hL_bv hM_bv
    have z8 : W7.heap.size ≤ W8.heap.size := b8.size
    have B8 : Hid (Below w.heap.size w W8) := B7.out.trans (b8.mono B7.out.size)
    have r_e8 : Hid (W8.heap[W2.heap.size]? = some (.cells #[.int .i64 (l.length : Int), .slice ao_ev L_ev cap_ev] 34 (0, 0))) := rowKeep r_e7.out b8
    have r_ar8 : Hid (W8.heap[W3.heap.size]? = some (.cells #[.int .i64 (l.length : Int), .slice ao_av L_av cap_av] 34 (0, 0))) := rowKeep r_ar7.out b8
    have o_lv8 : Hid (Own W8 (w.heap.size) (W1.heap.size) 9 (.slice (some ⟨b, off, none⟩) l.length cap) (ss l)) := Own.later o_lv7.out b8 (by omega)
    have o_ev8 : Hid (Own W8 (W1.heap.size) (W2.heap.size) 9 (.slice ao_ev L_ev cap_ev) (ss (edge l))) := Own.later o_ev7.out b8 (by omega)
    have o_pv8 : Hid (Own W8 (W4.heap.size) (W5.heap.size) 9 (.slice ao_pv L_pv cap_pv) (ss (edge (l.take i)))) := Own.later o_pv7.out b8 (by omega)
    have o_av8 : Hid (Own W8 (W5.heap.size) (W6.heap.size) 9 (.slice ao_av L_av cap_av) (ss (edge l))) := Own.later o_av7.out b8 (by omega)
    have c_e8_0 : W8.cell? ⟨W2.heap.size, 0, none⟩ = some (.int .i64 (l.length : Int)) := row_at r_e8.out 0
    have a_e8_0 : ∀ o, (W8.alloc o).cell? ⟨W2.heap.size, 0, none⟩ = some (.int .i64 (l.length : Int)) := fun o => keepR c_e8_0 ((Below.refl _ _).alloc (Nat.le_refl _) o)
    have c_e8_1 : W8.cell? ⟨W2.heap.size, 1, none⟩ = some (.slice ao_ev L_ev cap_ev) := row_at r_e8.out 1
    have a_e8_1 : ∀ o, (W8.alloc o).cell? ⟨W2.heap.size, 1, none⟩ = some (.slice ao_ev L_ev cap_ev) := fun o => keepR c_e8_1 ((Below.refl _ _).alloc (Nat.le_refl _) o)
    have c_ar8_0 : W8.cell? ⟨W3.heap.size, 0, none⟩ = some (.int .i64 (l.length : Int)) := row_at r_ar8.out 0
    have a_ar8_0 : ∀ o, (W8.alloc o).cell? ⟨W3.heap.size, 0, none⟩ = some (.int .i64 (l.length : Int)) := fun o => keepR c_ar8_0 ((Below.refl _ _).alloc (Nat.le_refl _) o)
    have c_ar8_1 : W8.cell? ⟨W3.heap.size, 1, none⟩ = some (.slice ao_av L_av cap_av) := row_at r_ar8.out 1
    have a_ar8_1 : ∀ o, (W8.alloc o).cell? ⟨W3.heap.size, 1, none⟩ = some (.slice ao_av L_av cap_av) := fun o => keepR c_ar8_1 ((Below.refl _ _).alloc (Nat.le_refl _) o)
    clear r_e7 c_e7_0 c_e7_1 a_e7_0 a_e7_1 r_ar7 c_ar7_0 c_ar7_1 a_ar7_0 a_ar7_1 o_lv7 o_ev7 o_pv7 o_av7
    have D8 : Hid (Below W1.heap.size W1 W8) := D7.out.trans (b8.mono D7.out.size)
    obtain ⟨W9, HW9, b9, y9, r_b9⟩ : ∃ X, Hid ((W8.alloc (.cells #[.int .i64 n2, .slice ao_bv L_bv cap_bv] 34)) = X) ∧ Below W8.heap.size W8 X ∧ W8.heap.size + 1 ≤ X.heap.size ∧ Hid (X.heap[W8.heap.size]? = some (.cells #[.int .i64 n2, .slice ao_bv L_bv cap_bv] 34 (0, 0))) := ⟨_, rfl, (Below.refl _ _).alloc (Nat.le_refl _) _, by simp, heap_alloc_new _ _⟩
    have z9 : W8.heap.size ≤ W9.heap.size := b9.size
    have B9 : Hid (Below w.heap.size w W9) := B8.out.trans (b9.mono B8.out.size)
    have r_e9 : Hid (W9.heap[W2.heap.size]? = some (.cells #[.int .i64 (l.length : Int), .slice ao_ev L_ev cap_ev] 34 (0, 0))) := rowKeep r_e8.out b9
    have r_ar9 : Hid (W9.heap[W3.heap.size]? = some (.cells #[.int .i64 (l.length : Int), .slice ao_av L_av cap_av] 34 (0, 0))) := rowKeep r_ar8.out b9
    have o_lv9 : Hid (Own W9 (w.heap.size) (W1.heap.size) 9 (.slice (some ⟨b, off, none⟩) l.length cap) (ss l)) := Own.later o_lv8.out b9 (by omega)
    have o_ev9 : Hid (Own W9 (W1.heap.size) (W2.heap.size) 9 (.slice ao_ev L_ev cap_ev) (ss (edge l))) := Own.later o_ev8.out b9 (by omega)
    have o_pv9 : Hid (Own W9 (W4.heap.size) (W5.heap.size) 9 (.slice ao_pv L_pv cap_pv) (ss (edge (l.take i)))) := Own.later o_pv8.out b9 (by omega)
    have o_av9 : Hid (Own W9 (W5.heap.size) (W6.heap.size) 9 (.slice ao_av L_av cap_av) (ss (edge l))) := Own.later o_av8.out b9 (by omega)
    have o_bv9 : Hid (Own W9 (W7.heap.size) (W8.heap.size) 9 (.slice ao_bv L_bv cap_bv) (ss E2)) := Own.later o_bv8.out b9 (by omega)
    have c_e9_0 : W9.cell? ⟨W2.heap.size, 0, none⟩ = some (.int .i64 (l.length : Int)) := row_at r_e9.out 0
    have a_e9_0 : ∀ o, (W9.alloc o).cell? ⟨W2.heap.size, 0, none⟩ = some (.int .i64 (l.length : Int)) := fun o => keepR c_e9_0 ((Below.refl _ _).alloc (Nat.le_refl _) o)
    have c_e9_1 : W9.cell? ⟨W2.heap.size, 1, none⟩ = some (.slice ao_ev L_ev cap_ev) := row_at r_e9.out 1
    have a_e9_1 : ∀ o, (W9.alloc o).cell? ⟨W2.heap.size, 1, none⟩ = some (.slice ao_ev L_ev cap_ev) := fun o => keepR c_e9_1 ((Below.refl _ _).alloc (Nat.le_refl _) o)
    have c_ar9_0 : W9.cell? ⟨W3.heap.size, 0, none⟩ = some (.int .i64 (l.length : Int)) := row_at r_ar9.out 0
    have a_ar9_0 : ∀ o, (W9.alloc o).cell? ⟨W3.heap.size, 0, none⟩ = some (.int .i64 (l.length : Int)) := fun o => keepR c_ar9_0 ((Below.refl _ _).alloc (Nat.le_refl _) o)
    have c_ar9_1 : W9.cell? ⟨W3.heap.size, 1, none⟩ = some (.slice ao_av L_av cap_av) := row_at r_ar9.out 1
    have a_ar9_1 : ∀ o, (W9.alloc o).cell? ⟨W3.heap.size, 1, none⟩ = some (.slice ao_av L_av cap_av) := fun o => keepR c_ar9_1 ((Below.refl _ _).alloc (Nat.le_refl _) o)
    have c_b9_0 : W9.cell? ⟨W8.heap.size, 0, none⟩ = some (.int .i64 n2) := row_at r_b9.out 0
    have a_b9_0 : ∀ o, (W9.alloc o).cell? ⟨W8.heap.size, 0, none⟩ = some (.int .i64 n2) := fun o => keepR c_b9_0 ((Below.refl _ _).alloc (Nat.le_refl _) o)
    have c_b9_1 : W9.cell? ⟨W8.heap.size, 1, none⟩ = some (.slice ao_bv L_bv cap_bv) := row_at r_b9.out 1
    have a_b9_1 : ∀ o, (W9.alloc o).cell? ⟨W8.heap.size, 1, none⟩ = some (.slice ao_bv L_bv cap_bv) := fun o => keepR c_b9_1 ((Below.refl _ _).alloc (Nat.le_refl _) o)
    clear r_e8 c_e8_0 c_e8_1 r_ar8 c_ar8_0 c_ar8_1 o_lv8 o_ev8 o_pv8 o_av8 o_bv8
    have D9 : Hid (Below W1.heap.size W1 W9) := D8.out.trans (b9.mono D8.out.size)
    go_wp2_with fail
    rw [HW9.out]
    clear a_e8_0 a_e8_1 a_ar8_0 a_ar8_1
    refine (qK W9 _ B9.out o_ev9.out.sl).mono ?_
    rintro e W10 ⟨rfl, b10⟩
    have z10 : W9.heap.size ≤ W10.heap.size := b10.size
    have B10 : Hid (Below w.heap.size w W10) := B9.out.trans (b10.mono B9.out.size)
    have r_e10 : Hid (W10.heap[W2.heap.size]? = some (.cells #[.int .i64 (l.length : Int), .slice ao_ev L_ev cap_ev] 34 (0, 0))) := rowKeep r_e9.out b10
    have r_ar10 : Hid (W10.heap[W3.heap.size]? = some (.cells #[.int .i64 (l.length : Int), .slice ao_av L_av cap_av] 34 (0, 0))) := rowKeep r_ar9.out b10
    have r_b10 : Hid (W10.heap[W8.heap.size]? = some (.cells #[.int .i64 n2, .slice ao_bv L_bv cap_bv] 34 (0, 0))) := rowKeep r_b9.out b10
    have o_lv10 : Hid (Own W10 (w.heap.size) (W1.heap.size) 9 (.slice (some ⟨b, off, none⟩) l.length cap) (ss l)) := Own.later o_lv9.out b10 (by omega)
    have o_ev10 : Hid (Own W10 (W1.heap.size) (W2.heap.size) 9 (.slice ao_ev L_ev cap_ev) (ss (edge l))) := Own.later o_ev9.out b10 (by omega)
    have o_pv10 : Hid (Own W10 (W4.heap.size) (W5.heap.size) 9 (.slice ao_pv L_pv cap_pv) (ss (edge (l.take i)))) := Own.later o_pv9.out b10 (by omega)
    have o_av10 : Hid (Own W10 (W5.heap.size) (W6.heap.size) 9 (.slice ao_av L_av cap_av) (ss (edge l))) := Own.later o_av9.out b10 (by omega)
    have o_bv10 : Hid (Own W10 (W7.heap.size) (W8.heap.size) 9 (.slice ao_bv L_bv cap_bv) (ss E2)) := Own.later o_bv9.out b10 (by omega)
    have c_e10_0 : W10.cell? ⟨W2.heap.size, 0, none⟩ = some (.int .i64 (l.length : Int)) := row_at r_e10.out 0
    have a_e10_0 : ∀ o, (W10.alloc o).cell? ⟨W2.heap.size, 0, none⟩ = some (.int .i64 (l.length : Int)) := fun o => keepR c_e10_0 ((Below.refl _ _).alloc (Nat.le_refl _) o)
    have c_e10_1 : W10.cell? ⟨W2.heap.size, 1, none⟩ = some (.slice ao_ev L_ev cap_ev) := row_at r_e10.out 1
    have a_e10_1 : ∀ o, (W10.alloc o).cell? ⟨W2.heap.size, 1, none⟩ = some (.slice ao_ev L_ev cap_ev) := fun o => keepR c_e10_1 ((Below.refl _ _).alloc (Nat.le_refl _) o)
    have c_ar10_0 : W10.cell? ⟨W3.heap.size, 0, none⟩ = some (.int .i64 (l.length : Int)) := row_at r_ar10.out 0
    have a_ar10_0 : ∀ o, (W10.alloc o).cell? ⟨W3.heap.size, 0, none⟩ = some (.int .i64 (l.length : Int)) := fun o => keepR c_ar10_0 ((Below.refl _ _).alloc (Nat.le_refl _) o)
    have c_ar10_1 : W10.cell? ⟨W3.heap.size, 1, none⟩ = some (.slice ao_av L_av cap_av) := row_at r_ar10.out 1
    have a_ar10_1 : ∀ o, (W10.alloc o).cell? ⟨W3.heap.size, 1, none⟩ = some (.slice ao_av L_av cap_av) := fun o => keepR c_ar10_1 ((Below.refl _ _).alloc (Nat.le_refl _) o)
    have c_b10_0 : W10.cell? ⟨W8.heap.size, 0, none⟩ = some (.int .i64 n2) := row_at r_b10.out 0
    have a_b10_0 : ∀ o, (W10.alloc o).cell? ⟨W8.heap.size, 0, none⟩ = some (.int .i64 n2) := fun o => keepR c_b10_0 ((Below.refl _ _).alloc (Nat.le_refl _) o)
    have c_b10_1 : W10.cell? ⟨W8.heap.size, 1, none⟩ = some (.slice ao_bv L_bv cap_bv) := row_at r_b10.out 1
    have a_b10_1 : ∀ o, (W10.alloc o).cell? ⟨W8.heap.size, 1, none⟩ = some (.slice ao_bv L_bv cap_bv) := fun o => keepR c_b10_1 ((Below.refl _ _).alloc (Nat.le_refl _) o)
    clear r_e9 c_e9_0 c_e9_1 a_e9_0 a_e9_1 r_ar9 c_ar9_0 c_ar9_1 a_ar9_0 a_ar9_1 r_b9 c_b9_0 c_b9_1 a_b9_0 a_b9_1 o_lv9 o_ev9 o_pv9 o_av9 o_bv9
    have D10 : Hid (Below W1.heap.size W1 W10) := D9.out.trans (b10.mono D9.out.size)
    go_wp2_with fail
    refine (qR1 W10 _ B10.out o_ev10.out.sl).mono ?_
    rintro e W11 ⟨rfl, b11⟩
    have z11 : W10.heap.size ≤ W11.heap.size := b11.size
    have B11 : Hid (Below w.heap.size w W11) := B10.out.trans (b11.mono B10.out.size)
    have r_e11 : Hid (W11.heap[W2.heap.size]? = some (.cells #[.int .i64 (l.length : Int), .slice ao_ev L_ev cap_ev] 34 (0, 0))) := rowKeep r_e10.out b11
    have r_ar11 : Hid (W11.heap[W3.heap.size]? = some (.cells #[.int .i64 (l.length : Int), .slice ao_av L_av cap_av] 34 (0, 0))) := rowKeep r_ar10.out b11
    have r_b11 : Hid (W11.heap[W8.heap.size]? = some (.cells #[.int .i64 n2, .slice ao_bv L_bv cap_bv] 34 (0, 0))) := rowKeep r_b10.out b11
    have o_lv11 : Hid (Own W11 (w.heap.size) (W1.heap.size) 9 (.slice (some ⟨b, off, none⟩) l.length cap) (ss l)) := Own.later o_lv10.out b11 (by omega)
    have o_ev11 : Hid (Own W11 (W1.heap.size) (W2.heap.size) 9 (.slice ao_ev L_ev cap_ev) (ss (edge l))) := Own.later o_ev10.out b11 (by omega)
    have o_pv11 : Hid (Own W11 (W4.heap.size) (W5.heap.size) 9 (.slice ao_pv L_pv cap_pv) (ss (edge (l.take i)))) := Own.later o_pv10.out b11 (by omega)
    have o_av11 : Hid (Own W11 (W5.heap.size) (W6.heap.size) 9 (.slice ao_av L_av cap_av) (ss (edge l))) := Own.later o_av10.out b11 (by omega)
    have o_bv11 : Hid (Own W11 (W7.heap.size) (W8.heap.size) 9 (.slice ao_bv L_bv cap_bv) (ss E2)) := Own.later o_bv10.out b11 (by omega)
    have c_e11_0 : W11.cell? ⟨W2.heap.size, 0, none⟩ = some (.int .i64 (l.length : Int)) := row_at r_e11.out 0
    have a_e11_0 : ∀ o, (W11.alloc o).cell? ⟨W2.heap.size, 0, none⟩ = some (.int .i64 (l.length : Int)) := fun o => keepR c_e11_0 ((Below.refl _ _).alloc (Nat.le_refl _) o)
    have c_e11_1 : W11.cell? ⟨W2.heap.size, 1, none⟩ = some (.slice ao_ev L_ev cap_ev) := row_at r_e11.out 1
    have a_e11_1 : ∀ o, (W11.alloc o).cell? ⟨W2.heap.size, 1, none⟩ = some (.slice ao_ev L_ev cap_ev) := fun o => keepR c_e11_1 ((Below.refl _ _).alloc (Nat.le_refl _) o)
    have c_ar11_0 : W11.cell? ⟨W3.heap.size, 0, none⟩ = some (.int .i64 (l.length : Int)) := row_at r_ar11.out 0
    have a_ar11_0 : ∀ o, (W11.alloc o).cell? ⟨W3.heap.size, 0, none⟩ = some (.int .i64 (l.length : Int)) := fun o => keepR c_ar11_0 ((Below.refl _ _).alloc (Nat.le_refl _) o)
    have c_ar11_1 : W11.cell? ⟨W3.heap.size, 1, none⟩ = some (.slice ao_av L_av cap_av) := row_at r_ar11.out 1
    have a_ar11_1 : ∀ o, (W11.alloc o).cell? ⟨W3.heap.size, 1, none⟩ = some (.slice ao_av L_av cap_av) := fun o => keepR c_ar11_1 ((Below.refl _ _).alloc (Nat.le_refl _) o)
    have c_b11_0 : W11.cell? ⟨W8.heap.size, 0, none⟩ = some (.int .i64 n2) := row_at r_b11.out 0
    have a_b11_0 : ∀ o, (W11.alloc o).cell? ⟨W8.heap.size, 0, none⟩ = some (.int .i64 n2) := fun o => keepR c_b11_0 ((Below.refl _ _).alloc (Nat.le_refl _) o)
    have c_b11_1 : W11.cell? ⟨W8.heap.size, 1, none⟩ = some (.slice ao_bv L_bv cap_bv) := row_at r_b11.out 1
    have a_b11_1 : ∀ o, (W11.alloc o).cell? ⟨W8.heap.size, 1, none⟩ = some (.slice ao_bv L_bv cap_bv) := fun o => keepR c_b11_1 ((Below.refl _ _).alloc (Nat.le_refl _) o)
    clear r_e10 c_e10_0 c_e10_1 a_e10_0 a_e10_1 r_ar10 c_ar10_0 c_ar10_1 a_ar10_0 a_ar10_1 r_b10 c_b10_0 c_b10_1 a_b10_0 a_b10_1 o_lv10 o_ev10 o_pv10 o_av10 o_bv10
    have D11 : Hid (Below W1.heap.size W1 W11) := D10.out.trans (b11.mono D10.out.size)
    go_wp2_with fail
    refine (qR0 W11 _ B11.out o_lv11.out.sl).mono ?_
    rintro e W12 ⟨rfl, b12⟩
    have z12 : W11.heap.size ≤ W12.heap.size := b12.size
    have B12 : Hid (Below w.heap.size w W12) := B11.out.trans (b12.mono B11.out.size)
    have r_e12 : Hid (W12.heap[W2.heap.size]? = some (.cells #[.int .i64 (l.length : Int), .slice ao_ev L_ev cap_ev] 34 (0, 0))) := rowKeep r_e11.out b12
    have r_ar12 : Hid (W12.heap[W3.heap.size]? = some (.cells #[.int .i64 (l.length : Int), .slice ao_av L_av cap_av] 34 (0, 0))) := rowKeep r_ar11.out b12
    have r_b12 : Hid (W12.heap[W8.heap.size]? = some (.cells #[.int .i64 n2, .slice ao_bv L_bv cap_bv] 34 (0, 0))) := rowKeep r_b11.out b12
    have o_lv12 : Hid (Own W12 (w.heap.size) (W1.heap.size) 9 (.slice (some ⟨b, off, none⟩) l.length cap) (ss l)) := Own.later o_lv11.out b12 (by omega)
    have o_ev12 : Hid (Own W12 (W1.heap.size) (W2.heap.size) 9 (.slice ao_ev L_ev cap_ev) (ss (edge l))) := Own.later o_ev11.out b12 (by omega)
    have o_pv12 : Hid (Own W12 (W4.heap.size) (W5.heap.size) 9 (.slice ao_pv L_pv cap_pv) (ss (edge (l.take i)))) := Own.later o_pv11.out b12 (by omega)
    have o_av12 : Hid (Own W12 (W5.heap.size) (W6.heap.size) 9 (.slice ao_av L_av cap_av) (ss (edge l))) := Own.later o_av11.out b12 (by omega)
    have o_bv12 : Hid (Own W12 (W7.heap.size) (W8.heap.size) 9 (.slice ao_bv L_bv cap_bv) (ss E2)) := Own.later o_bv11.out b12 (by omega)
    have c_e12_0 : W12.cell? ⟨W2.heap.size, 0, none⟩ = some (.int .i64 (l.length : Int)) := row_at r_e12.out 0
    have a_e12_0 : ∀ o, (W12.alloc o).cell? ⟨W2.heap.size, 0, none⟩ = some (.int .i64 (l.length : Int)) := fun o => keepR c_e12_0 ((Below.refl _ _).alloc (Nat.le_refl _) o)
    have c_e12_1 : W12.cell? ⟨W2.heap.size, 1, none⟩ = some (.slice ao_ev L_ev cap_ev) := row_at r_e12.out 1
    have a_e12_1 : ∀ o, (W12.alloc o).cell? ⟨W2.heap.size, 1, none⟩ = some (.slice ao_ev L_ev cap_ev) := fun o => keepR c_e12_1 ((Below.refl _ _).alloc (Nat.le_refl _) o)
    have c_ar12_0 : W12.cell? ⟨W3.heap.size, 0, none⟩ = some (.int .i64 (l.length : Int)) := row_at r_ar12.out 0
    have a_ar12_0 : ∀ o, (W12.alloc o).cell? ⟨W3.heap.size, 0, none⟩ = some (.int .i64 (l.length : Int)) := fun o => keepR c_ar12_0 ((Below.refl _ _).alloc (Nat.le_refl _) o)
    have c_ar12_1 : W12.cell? ⟨W3.heap.size, 1, none⟩ = some (.slice ao_av L_av cap_av) := row_at r_ar12.out 1
    have a_ar12_1 : ∀ o, (W12.alloc o).cell? ⟨W3.heap.size, 1, none⟩ = some (.slice ao_av L_av cap_av) := fun o => keepR c_ar12_1 ((Below.refl _ _).alloc (Nat.le_refl _) o)
    have c_b12_0 : W12.cell? ⟨W8.heap.size, 0, none⟩ = some (.int .i64 n2) := row_at r_b12.out 0
    have a_b12_0 : ∀ o, (W12.alloc o).cell? ⟨W8.heap.size, 0, none⟩ = some (.int .i64 n2) := fun o => keepR c_b12_0 ((Below.refl _ _).alloc (Nat.le_refl _) o)
    have c_b12_1 : W12.cell? ⟨W8.heap.size, 1, none⟩ = some (.slice ao_bv L_bv cap_bv) := row_at r_b12.out 1
    have a_b12_1 : ∀ o, (W12.alloc o).cell? ⟨W8.heap.size, 1, none⟩ = some (.slice ao_bv L_bv cap_bv) := fun o => keepR c_b12_1 ((Below.refl _ _).alloc (Nat.le_refl _) o)
    clear r_e11 c_e11_0 c_e11_1 a_e11_0 a_e11_1 r_ar11 c_ar11_0 c_ar11_1 a_ar11_0 a_ar11_1 r_b11 c_b11_0 c_b11_1 a_b11_0 a_b11_1 o_lv11 o_ev11 o_pv11 o_av11 o_bv11
    have D12 : Hid (Below W1.heap.size W1 W12) := D11.out.trans (b12.mono D11.out.size)
    go_wp2_with fail
    refine (same_true W12 _ _ (edge l) o_av12.out.sl o_ev12.out.sl (by omega)).mono ?_
    rintro e W13 ⟨rfl, h13, _⟩
    have b13 : Below W12.heap.size W12 W13 := h13 _
    clear h13
    have z13 : W12.heap.size ≤ W13.heap.size := b13.size
    have B13 : Hid (Below w.heap.size w W13) := B12.out.trans (b13.mono B12.out.size)
    have r_e13 : Hid (W13.heap[W2.heap.size]? = some (.cells #[.int .i64 (l.length : Int), .slice ao_ev L_ev cap_ev] 34 (0, 0))) := rowKeep r_e12.out b13
    have r_ar13 : Hid (W13.heap[W3.heap.size]? = some (.cells #[.int .i64 (l.length : Int), .slice ao_av L_av cap_av] 34 (0, 0))) := rowKeep r_ar12.out b13
    have r_b13 : Hid (W13.heap[W8.heap.size]? = some (.cells #[.int .i64 n2, .slice ao_bv L_bv cap_bv] 34 (0, 0))) := rowKeep r_b12.out b13
    have o_lv13 : Hid (Own W13 (w.heap.size) (W1.heap.size) 9 (.slice (some ⟨b, off, none⟩) l.length cap) (ss l)) := Own.later o_lv12.out b13 (by omega)
    have o_ev13 : Hid (Own W13 (W1.heap.size) (W2.heap.size) 9 (.slice ao_ev L_ev cap_ev) (ss (edge l))) := Own.later o_ev12.out b13 (by omega)
    have o_pv13 : Hid (Own W13 (W4.heap.size) (W5.heap.size) 9 (.slice ao_pv L_pv cap_pv) (ss (edge (l.take i)))) := Own.later o_pv12.out b13 (by omega)
    have o_av13 : Hid (Own W13 (W5.heap.size) (W6.heap.size) 9 (.slice ao_av L_av cap_av) (ss (edge l))) := Own.later o_av12.out b13 (by omega)
    have o_bv13 : Hid (Own W13 (W7.heap.size) (W8.heap.size) 9 (.slice ao_bv L_bv cap_bv) (ss E2)) := Own.later o_bv12.out b13 (by omega)
    have c_e13_0 : W13.cell? ⟨W2.heap.size, 0, none⟩ = some (.int .i64 (l.length : Int)) := row_at r_e13.out 0
    have a_e13_0 : ∀ o, (W13.alloc o).cell? ⟨W2.heap.size, 0, none⟩ = some (.int .i64 (l.length : Int)) := fun o => keepR c_e13_0 ((Below.refl _ _).alloc (Nat.le_refl _) o)
    have c_e13_1 : W13.cell? ⟨W2.heap.size, 1, none⟩ = some (.slice ao_ev L_ev cap_ev) := row_at r_e13.out 1
    have a_e13_1 : ∀ o, (W13.alloc o).cell? ⟨W2.heap.size, 1, none⟩ = some (.slice ao_ev L_ev cap_ev) := fun o => keepR c_e13_1 ((Below.refl _ _).alloc (Nat.le_refl _) o)
    have c_ar13_0 : W13.cell? ⟨W3.heap.size, 0, none⟩ = some (.int .i64 (l.length : Int)) := row_at r_ar13.out 0
    have a_ar13_0 : ∀ o, (W13.alloc o).cell? ⟨W3.heap.size, 0, none⟩ = some (.int .i64 (l.length : Int)) := fun o => keepR c_ar13_0 ((Below.refl _ _).alloc (Nat.le_refl _) o)
    have c_ar13_1 : W13.cell? ⟨W3.heap.size, 1, none⟩ = some (.slice ao_av L_av cap_av) := row_at r_ar13.out 1
    have a_ar13_1 : ∀ o, (W13.alloc o).cell? ⟨W3.heap.size, 1, none⟩ = some (.slice ao_av L_av cap_av) := fun o => keepR c_ar13_1 ((Below.refl _ _).alloc (Nat.le_refl _) o)
    have c_b13_0 : W13.cell? ⟨W8.heap.size, 0, none⟩ = some (.int .i64 n2) := row_at r_b13.out 0
    have a_b13_0 : ∀ o, (W13.alloc o).cell? ⟨W8.heap.size, 0, none⟩ = some (.int .i64 n2) := fun o => keepR c_b13_0 ((Below.refl _ _).alloc (Nat.le_refl _) o)
    have c_b13_1 : W13.cell? ⟨W8.heap.size, 1, none⟩ = some (.slice ao_bv L_bv cap_bv) := row_at r_b13.out 1
    have a_b13_1 : ∀ o, (W13.alloc o).cell? ⟨W8.heap.size, 1, none⟩ = some (.slice ao_bv L_bv cap_bv) := fun o => keepR c_b13_1 ((Below.refl _ _).alloc (Nat.le_refl _) o)
    clear r_e12 c_e12_0 c_e12_1 a_e12_0 a_e12_1 r_ar12 c_ar12_0 c_ar12_1 a_ar12_0 a_ar12_1 r_b12 c_b12_0 c_b12_1 a_b12_0 a_b12_1 o_lv12 o_ev12 o_pv12 o_av12 o_bv12
    have D13 : Hid (Below W1.heap.size W1 W13) := D12.out.trans (b13.mono D12.out.size)
    go_wp2_with fail
    refine (qR2 W13 _ B13.out o_bv13.out.sl).mono ?_
    rintro e W14 ⟨rfl, b14⟩
    have z14 : W13.heap.size ≤ W14.heap.size := b14.size
    have B14 : Hid (Below w.heap.size w W14) := B13.out.trans (b14.mono B13.out.size)
    have r_e14 : Hid (W14.heap[W2.heap.size]? = some (.cells #[.int .i64 (l.length : Int), .slice ao_ev L_ev cap_ev] 34 (0, 0))) := rowKeep r_e13.out b14
    have r_ar14 : Hid (W14.heap[W3.heap.size]? = some (.cells #[.int .i64 (l.length : Int), .slice ao_av L_av cap_av] 34 (0, 0))) := rowKeep r_ar13.out b14
    have r_b14 : Hid (W14.heap[W8.heap.size]? = some (.cells #[.int .i64 n2, .slice ao_bv L_bv cap_bv] 34 (0, 0))) := rowKeep r_b13.out b14
    have o_lv14 : Hid (Own W14 (w.heap.size) (W1.heap.size) 9 (.slice (some ⟨b, off, none⟩) l.length cap) (ss l)) := Own.later o_lv13.out b14 (by omega)
    have o_ev14 : Hid (Own W14 (W1.heap.size) (W2.heap.size) 9 (.slice ao_ev L_ev cap_ev) (ss (edge l))) := Own.later o_ev13.out b14 (by omega)
    have o_pv14 : Hid (Own W14 (W4.heap.size) (W5.heap.size) 9 (.slice ao_pv L_pv cap_pv) (ss (edge (l.take i)))) := Own.later o_pv13.out b14 (by omega)
    have o_av14 : Hid (Own W14 (W5.heap.size) (W6.heap.size) 9 (.slice ao_av L_av cap_av) (ss (edge l))) := Own.later o_av13.out b14 (by omega)
    have o_bv14 : Hid (Own W14 (W7.heap.size) (W8.heap.size) 9 (.slice ao_bv L_bv cap_bv) (ss E2)) := Own.later o_bv13.out b14 (by omega)
    have c_e14_0 : W14.cell? ⟨W2.heap.size, 0, none⟩ = some (.int .i64 (l.length : Int)) := row_at r_e14.out 0
    have a_e14_0 : ∀ o, (W14.alloc o).cell? ⟨W2.heap.size, 0, none⟩ = some (.int .i64 (l.length : Int)) := fun o => keepR c_e14_0 ((Below.refl _ _).alloc (Nat.le_refl _) o)
    have c_e14_1 : W14.cell? ⟨W2.heap.size, 1, none⟩ = some (.slice ao_ev L_ev cap_ev) := row_at r_e14.out 1
    have a_e14_1 : ∀ o, (W14.alloc o).cell? ⟨W2.heap.size, 1, none⟩ = some (.slice ao_ev L_ev cap_ev) := fun o => keepR c_e14_1 ((Below.refl _ _).alloc (Nat.le_refl _) o)
    have c_ar14_0 : W14.cell? ⟨W3.heap.size, 0, none⟩ = some (.int .i64 (l.length : Int)) := row_at r_ar14.out 0
    have a_ar14_0 : ∀ o, (W14.alloc o).cell? ⟨W3.heap.size, 0, none⟩ = some (.int .i64 (l.length : Int)) := fun o => keepR c_ar14_0 ((Below.refl _ _).alloc (Nat.le_refl _) o)
    have c_ar14_1 : W14.cell? ⟨W3.heap.size, 1, none⟩ = some (.slice ao_av L_av cap_av) := row_at r_ar14.out 1
    have a_ar14_1 : ∀ o, (W14.alloc o).cell? ⟨W3.heap.size, 1, none⟩ = some (.slice ao_av L_av cap_av) := fun o => keepR c_ar14_1 ((Below.refl _ _).alloc (Nat.le_refl _) o)
    have c_b14_0 : W14.cell? ⟨W8.heap.size, 0, none⟩ = some (.int .i64 n2) := row_at r_b14.out 0
    have a_b14_0 : ∀ o, (W14.alloc o).cell? ⟨W8.heap.size, 0, none⟩ = some (.int .i64 n2) := fun o => keepR c_b14_0 ((Below.refl _ _).alloc (Nat.le_refl _) o)
    have c_b14_1 : W14.cell? ⟨W8.heap.size, 1, none⟩ = some (.slice ao_bv L_bv cap_bv) := row_at r_b14.out 1
    have a_b14_1 : ∀ o, (W14.alloc o).cell? ⟨W8.heap.size, 1, none⟩ = some (.slice ao_bv L_bv cap_bv) := fun o => keepR c_b14_1 ((Below.refl _ _).alloc (Nat.le_refl _) o)
    clear r_e13 c_e13_0 c_e13_1 a_e13_0 a_e13_1 r_ar13 c_ar13_0 c_ar13_1 a_ar13_0 a_ar13_1 r_b13 c_b13_0 c_b13_1 a_b13_0 a_b13_1 o_lv13 o_ev13 o_pv13 o_av13 o_bv13
    have D14 : Hid (Below W1.heap.size W1 W14) := D13.out.trans (b14.mono D13.out.size)
    have hL8 : (L_ev : Int) ≤ 8 := by
      obtain ⟨_, L9, _, he, h1, _⟩ := Mem.Own.form o_ev14.out
      simp only [Value.slice.injEq] at he
      rw [ss_len] at h1
      omega
    have zz14 : W14.heap.size ≤ (W14.alloc (.cells #[] 9)).heap.size := by simp
    go_wp2_with (at_builtin; go_must (refine wpl_app _ rfl (.tmp 77) (.tmp 78) 24 rfl 9 i0 (.string ⟨#[]⟩) 16 Tryd.underlying24 hi hz0 hz1 hz2 rfl W14.heap.size _ _ rfl (emptyT W14 W14.heap.size (Nat.le_refl _)) _ rfl (ss l) ((o_lv14.out.sl).later ((Below.refl _ _).alloc (Nat.le_refl _) _)) (ss_one l) c6 c7 zz14 ?_))
    intro v_p W15 o_p15 b15 g15
    have b15 : Below W14.heap.size W14 W15 := ((Below.refl _ _).alloc (Nat.le_refl _) _).trans b15
    clear g15 zz14
    have o_p15 : Own W15 W14.heap.size W15.heap.size 9 v_p (ss l) := o_p15
    obtain ⟨ao_p, L_p, cap_p, rfl, hL_p, hM_p⟩ := o_p15.form
    have o_p15 : Hid (Own W15 W14.heap.size W15.heap.size 9 (.slice ao_p L_p cap_p) (ss l)) := o_p15
    clear hL_p hM_p
    have z15 : W14.heap.size ≤ W15.heap.size := b15.size
    have B15 : Hid (Below w.heap.size w W15) := B14.out.trans (b15.mono B14.out.size)
    have r_e15 : Hid (W15.heap[W2.heap.size]? = some (.cells #[.int .i64 (l.length : Int), .slice ao_ev L_ev cap_ev] 34 (0, 0))) := rowKeep r_e14.out b15
    have r_ar15 : Hid (W15.heap[W3.heap.size]? = some (.cells #[.int .i64 (l.length : Int), .slice ao_av L_av cap_av] 34 (0, 0))) := rowKeep r_ar14.out b15
    have r_b15 : Hid (W15.heap[W8.heap.size]? = some (.cells #[.int .i64 n2, .slice ao_bv L_bv cap_bv] 34 (0, 0))) := rowKeep r_b14.out b15
    have o_lv15 : Hid (Own W15 (w.heap.size) (W1.heap.size) 9 (.slice (some ⟨b, off, none⟩) l.length cap) (ss l)) := Own.later o_lv14.out b15 (by omega)
    have o_ev15 : Hid (Own W15 (W1.heap.size) (W2.heap.size) 9 (.slice ao_ev L_ev cap_ev) (ss (edge l))) := Own.later o_ev14.out b15 (by omega)
    have o_pv15 : Hid (Own W15 (W4.heap.size) (W5.heap.size) 9 (.slice ao_pv L_pv cap_pv) (ss (edge (l.take i)))) := Own.later o_pv14.out b15 (by omega)
    have o_av15 : Hid (Own W15 (W5.heap.size) (W6.heap.size) 9 (.slice ao_av L_av cap_av) (ss (edge l))) := Own.later o_av14.out b15 (by omega)
    have o_bv15 : Hid (Own W15 (W7.heap.size) (W8.heap.size) 9 (.slice ao_bv L_bv cap_bv) (ss E2)) := Own.later o_bv14.out b15 (by omega)
    have c_e15_0 : W15.cell? ⟨W2.heap.size, 0, none⟩ = some (.int .i64 (l.length : Int)) := row_at r_e15.out 0
    have a_e15_0 : ∀ o, (W15.alloc o).cell? ⟨W2.heap.size, 0, none⟩ = some (.int .i64 (l.length : Int)) := fun o => keepR c_e15_0 ((Below.refl _ _).alloc (Nat.le_refl _) o)
    have c_e15_1 : W15.cell? ⟨W2.heap.size, 1, none⟩ = some (.slice ao_ev L_ev cap_ev) := row_at r_e15.out 1
    have a_e15_1 : ∀ o, (W15.alloc o).cell? ⟨W2.heap.size, 1, none⟩ = some (.slice ao_ev L_ev cap_ev) := fun o => keepR c_e15_1 ((Below.refl _ _).alloc (Nat.le_refl _) o)
    have c_ar15_0 : W15.cell? ⟨W3.heap.size, 0, none⟩ = some (.int .i64 (l.length : Int)) := row_at r_ar15.out 0
    have a_ar15_0 : ∀ o, (W15.alloc o).cell? ⟨W3.heap.size, 0, none⟩ = some (.int .i64 (l.length : Int)) := fun o => keepR c_ar15_0 ((Below.refl _ _).alloc (Nat.le_refl _) o)
    have c_ar15_1 : W15.cell? ⟨W3.heap.size, 1, none⟩ = some (.slice ao_av L_av cap_av) := row_at r_ar15.out 1
    have a_ar15_1 : ∀ o, (W15.alloc o).cell? ⟨W3.heap.size, 1, none⟩ = some (.slice ao_av L_av cap_av) := fun o => keepR c_ar15_1 ((Below.refl _ _).alloc (Nat.le_refl _) o)
    have c_b15_0 : W15.cell? ⟨W8.heap.size, 0, none⟩ = some (.int .i64 n2) := row_at r_b15.out 0
    have a_b15_0 : ∀ o, (W15.alloc o).cell? ⟨W8.heap.size, 0, none⟩ = some (.int .i64 n2) := fun o => keepR c_b15_0 ((Below.refl _ _).alloc (Nat.le_refl _) o)
    have c_b15_1 : W15.cell? ⟨W8.heap.size, 1, none⟩ = some (.slice ao_bv L_bv cap_bv) := row_at r_b15.out 1
    have a_b15_1 : ∀ o, (W15.alloc o).cell? ⟨W8.heap.size, 1, none⟩ = some (.slice ao_bv L_bv cap_bv) := fun o => keepR c_b15_1 ((Below.refl _ _).alloc (Nat.le_refl _) o)
    clear r_e14 c_e14_0 c_e14_1 a_e14_0 a_e14_1 r_ar14 c_ar14_0 c_ar14_1 a_ar14_0 a_ar14_1 r_b14 c_b14_0 c_b14_1 a_b14_0 a_b14_1 o_lv14 o_ev14 o_pv14 o_av14 o_bv14
    have D15 : Hid (Below W1.heap.size W1 W15) := D14.out.trans (b15.mono D14.out.size)
    have zz15 : W14.heap.size ≤ (W15.alloc (.cells #[.string ⟨#[120]⟩] 9)).heap.size := by simp; omega
    go_wp2_with (at_builtin; go_must (refine wpl_app _ rfl (.tmp 79) (.tmp 80) 24 rfl 9 i0 (.string ⟨#[]⟩) 16 Tryd.underlying24 hi hz0 hz1 hz2 rfl W14.heap.size _ _ rfl (o_p15.out.alloc _) _ rfl [.string ⟨#[120]⟩] (Laws.Sl.one _ _ _) (oneT _) c8 c9 zz15 ?_))
    intro v_s W16 o_s16 b16 g16
    have b16 : Below W14.heap.size W15 W16 := ((Below.refl _ _).alloc (by omega) _).trans b16
    clear g16 zz15
    have o_s16 : Own W16 W14.heap.size W16.heap.size 9 v_s (ss (l ++ [⟨#[120]⟩])) := by rw [ss_app]; exact o_s16
    have B16 : Hid (Below w.heap.size w W16) := B15.out.trans (b16.mono (by have := B14.out.size; omega))
    have k_e : W16.cell? ⟨W2.heap.size, 1, none⟩ = some (.slice ao_ev L_ev cap_ev) := (b16.cell (by show W2.heap.size < _; omega)).trans c_e15_1
    have qz := qRz W16 _ B16.out o_s16.sl
    go_wp2_with fail
    refine qz.mono ?_
    rintro e W17 ⟨rfl, b17⟩
    have k_e2 := keepR k_e b17
    have BB : Below w.heap.size w W17 := B16.out.trans (b17.mono B16.out.size)
    go_wp2
    go_ret
    exact ⟨rfl, BB⟩

end Go.Proofs.YthbonifpdpknnaaDoor.Ed
