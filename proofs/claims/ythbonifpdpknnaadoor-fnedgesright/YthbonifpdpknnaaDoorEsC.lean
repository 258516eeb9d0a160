/- Chapter 7, the landed code: what is carried, an edge's own copy, more texts behind an edge. -/
import Derived.Test.YthbonifpdpknnaaDoorEsB
import Derived.Test.YthbonifpdpknnaaDoorEd5
import Derived.Laws.EntriesVeiled
namespace Go.Proofs.YthbonifpdpknnaaDoor.Ed
open Go.RowKit Go.Proofs.YthbonifpdpknnaaDoor.Mem Go.Proofs.YthbonifpdpknnaaDoor.Laws Go.Proofs.YthbonifpdpknnaaDoor.Bytes Go.Proofs.YthbonifpdpknnaaDoor.Sha Go.Proofs.YthbonifpdpknnaaDoor.Tr
set_option linter.unusedVariables false
set_option linter.unusedSimpArgs false

/-- texts one by one behind an edge of n -/
def cfold : Nat → List ByteArray → List ByteArray → List ByteArray
  | _, hs, [] => hs
  | n, hs, s :: r => cfold (n + 1) (carry n hs (leafH s)) r
theorem cfold_snoc : ∀ (r : List ByteArray) (n : Nat) (hs : List ByteArray) (s : ByteArray), cfold n hs (r ++ [s]) = carry (n + r.length) (cfold n hs r) (leafH s)
  | [], n, hs, s => rfl
  | t :: r, n, hs, s => by
    rw [List.cons_append, cfold, cfold_snoc r, cfold, List.length_cons, show n + 1 + r.length = n + (r.length + 1) by omega]
theorem goE_yes : ∀ (r : List ByteArray) (n : Nat) (hs : List ByteArray), okE (n : Int) hs = true → n + r.length ≤ 200 → goE (n : Int) hs r = some (((n + r.length : Nat) : Int), cfold n hs r) ∧ okE ((n + r.length : Nat) : Int) (cfold n hs r) = true
  | [], n, hs, ho, _ => ⟨rfl, ho⟩
  | s :: r, n, hs, ho, h => by
    have h1 : (n : Int) ≠ 200 := by simp at h; omega
    have h2 := addE_ok ho h1 s
    rw [Int.toNat_natCast, show (n : Int) + 1 = ((n + 1 : Nat) : Int) by omega] at h2
    have h3 := goE_yes r (n + 1) _ h2 (by simp at h; omega)
    rw [goE, addE_yes ho h1, if_pos rfl]
    simp only [Int.toNat_natCast]
    rw [show (n : Int) + 1 = ((n + 1 : Nat) : Int) by omega, h3.1, List.length_cons, cfold, show n + 1 + r.length = n + (r.length + 1) by omega]
    refine ⟨rfl, ?_⟩
    have := h3.2
    rw [show n + 1 + r.length = n + (r.length + 1) by omega] at this
    exact this
theorem goE_no : ∀ (r : List ByteArray) (n : Nat) (hs : List ByteArray), okE (n : Int) hs = true → 200 < n + r.length → goE (n : Int) hs r = none
  | [], n, hs, ho, h => by
    have := (okE_iff.1 ho).1
    simp at h
    omega
  | s :: r, n, hs, ho, h => by
    by_cases h1 : (n : Int) ≠ 200
    · have h2 := addE_ok ho h1 s
      rw [Int.toNat_natCast, show (n : Int) + 1 = ((n + 1 : Nat) : Int) by omega] at h2
      rw [goE, addE_yes ho h1, if_pos rfl]
      simp only [Int.toNat_natCast]
      rw [show (n : Int) + 1 = ((n + 1 : Nat) : Int) by omega]
      exact goE_no r (n + 1) _ h2 (by simp at h; omega)
    · rw [goE, addE_no (fun hh => h1 hh.2), if_neg (by simp)]
theorem allE_none (n : Int) (hs : List ByteArray) : allE n hs [] = (n, hs, true) := rfl
theorem allE_yes {r : List ByteArray} {n : Nat} {hs : List ByteArray} (h : okE (n : Int) hs = true) (hn : n + r.length ≤ 200) : allE (n : Int) hs r = (((n + r.length : Nat) : Int), cfold n hs r, true) := by
  unfold allE; rw [(goE_yes r n hs h hn).1]
theorem allE_full {r : List ByteArray} {n : Nat} {hs : List ByteArray} (h : okE (n : Int) hs = true) (hn : 200 < n + r.length) : allE (n : Int) hs r = ((n : Int), hs, false) := by
  unfold allE; rw [goE_no r n hs h hn]
theorem allE_bad {r : List ByteArray} {n : Int} {hs : List ByteArray} (h : okE n hs = false) (hr : 1 ≤ r.length) : allE n hs r = (n, hs, false) := by
  match r, hr with
  | s :: r, _ => unfold allE; rw [goE, addE_no (fun hh => by rw [h] at hh; exact absurd hh.1 (by simp)), if_neg (by simp)]
theorem cfold_at {l : List ByteArray} {n k : Nat} {hs : List ByteArray} {s : ByteArray} (h : l[k]? = some s) : cfold n hs (l.take (k + 1)) = carry (n + k) (cfold n hs (l.take k)) (leafH s) := by
  have hk : k < l.length := (List.getElem?_eq_some_iff.1 h).1
  rw [List.take_add_one, h]
  show cfold n hs (l.take k ++ [s]) = _
  rw [cfold_snoc, List.length_take, Nat.min_eq_left (by omega)]

theorem Sk.lo_le {w : World} {lo gs : Nat} {hs : List ByteArray} (h : Sk w lo gs hs) : lo ≤ w.heap.size := by
  obtain ⟨v, h1, h2, _⟩ := h
  have := (Array.getElem?_eq_some_iff.1 h2).1
  omega

set_option maxRecDepth 1000000 in
set_option maxHeartbeats 4000000 in
theorem carried_impl (w : World) (lo gs n : Nat) (hs : List ByteArray) (h : ByteArray) (hG : ∀ W, Below lo w W → Glob W) (hS : Sk w lo gs hs) (hn : n ≤ 255) (hp : hs.length = popc n) (h32 : ∀ s ∈ hs, s.size = 32) (hh : h.size = 32) :
    Calls Tryd.prog 44 #[.string h, .int .i64 (n : Int), .func (.func 43) #[.pointer (some ⟨gs, 0, none⟩)] #[]] w fun e w' => ∃ (q : List ByteArray) (g : ByteArray), e = .returned (.string g) ∧ Sk w' lo gs q ∧ Below lo w w' ∧ Hid (carry n hs h = q ++ [g]) := by
  have HG : Hid (∀ W, Below lo w W → Glob W) := hG
  go_enter Tryd.func44, Tryd.ntmps44
  go_wp2
  go_loopw [0, 1] (fun a b wr => ∃ (m : Nat) (q : List ByteArray) (g : ByteArray), a = .string g ∧ b = .int .i64 (m : Int) ∧ m ≤ 255 ∧ Hid (q.length = popc m) ∧ Hid (∀ s ∈ q, s.size = 32) ∧ Hid (g.size = 32) ∧ Hid (Sk wr lo gs q) ∧ Hid (carry m q g = carry n hs h) ∧ Hid (Below lo w wr)) (fun _ b _ => (intOf b).toNat)
  case atStart => exact ⟨n, hs, h, rfl, rfl, hn, hp, h32, hh, hS, rfl, Below.refl _ _⟩
  case round =>
    clear hp h32 hh hS hG
    obtain ⟨m, q, g, rfl, rfl, hm, HP, HZ, HH, HS, HC, HB⟩ := hrel
    by_cases h0 : m % 2 = 1
    · obtain ⟨q', x, rfl⟩ : ∃ q' x, q = q' ++ [x] := by
        have hne : q ≠ [] := by
          intro e
          subst e
          have := HP.out
          rw [popc_step (by omega)] at this
          simp at this
          omega
        exact ⟨q.dropLast, q.getLast hne, (List.dropLast_concat_getLast hne).symm⟩
      have hx32 : x.size = 32 := HZ.out x (by simp)
      have hg32 : g.size = 32 := HH.out
      have HP' : Hid (q'.length = popc (m / 2)) := by
        have := HP.out
        rw [popc_step (by omega), List.length_append] at this
        simp at this
        show _ = _
        omega
      have HZ' : Hid (∀ s ∈ q', s.size = 32) := fun s hs' => HZ.out s (by simp [hs'])
      have HC' : Hid (carry (m / 2) q' (nodeH x g) = carry n hs h) := by
        show _ = _
        rw [← HC.out, carry_odd h0]
      have hq : q'.length ≤ 1000000000 := by have := HP'.out; have := popc_le ⟨m / 2, by omega⟩; simp only at this; omega
      have q1 := pop_some wr lo gs q' x HS.out hq
      have q2 : ∀ W, Below lo w W → _ := fun W hW => node_impl W x g (HG.out W hW) (by omega) (by omega)
      have d1 : (m : Int) % 2 = 1 := by omega
      have d2 : ((m : Int).tmod 2 == 1) = true := by
        rw [beq_iff_eq, Int.tmod_eq_emod_of_nonneg (by omega)]; omega
      have d3 : (m : Int).tmod 2 = 1 := by rw [Int.tmod_eq_emod_of_nonneg (by omega)]; omega
      have d4 : (m : Int).tdiv 2 = ((m / 2 : Nat) : Int) := by rw [Int.tdiv_eq_ediv_of_nonneg (by omega)]; omega
      clear HP HZ HC HS hq hx32 hg32 h0
      go_wp2_with fail
      refine q1.mono ?_
      rintro e w1 ⟨rfl, s1, b1⟩
      have B1 : Below lo w w1 := HB.out.trans b1
      have q2 := q2 w1 B1
      have HS1 : Hid (Sk w1 lo gs q') := s1
      have HB1 : Hid (Below lo w w1) := B1
      clear q1 b1 HB s1 B1
      go_wp2_with fail
      refine q2.mono ?_
      rintro e w2 ⟨rfl, b2⟩
      have HS2 : Hid (Sk w2 lo gs q') := HS1.out.later b2
      have HB2 : Hid (Below lo w w2) := HB1.out.trans (b2.mono HS1.out.lo_le)
      clear q2 b2 HS1 HB1
      go_wp2
      go_roundw
      case rel => exact ⟨m / 2, q', nodeH x g, rfl, by go_num, by omega, HP', HZ', nodeH_size _ _, HS2, HC', HB2⟩
      case measure => simp [intOf]; omega
    · have HN : Hid (carry n hs h = q ++ [g]) := by
        show _ = _
        rw [← HC.out, carry_even h0]
      have d1 : ¬ (m : Int) % 2 = 1 := by omega
      have d2 : ((m : Int).tmod 2 == 1) = false := by
        rw [beq_eq_false_iff_ne, Int.tmod_eq_emod_of_nonneg (by omega)]; omega
      have d3 : ¬ (m : Int).tmod 2 = 1 := by rw [Int.tmod_eq_emod_of_nonneg (by omega)]; omega
      clear HC h0
      go_wp2
      go_ret
      exact ⟨q, g, rfl, HS.out, HB.out, HN⟩

set_option maxRecDepth 1000000 in
set_option maxHeartbeats 4000000 in
theorem ownE_impl (w : World) (n : Int) (v : Value) (hs : List ByteArray) (h : Sl w v (ss hs)) (hl : hs.length ≤ 1000000000) (hz : ∀ s ∈ hs, s.size ≤ 1000000000000) :
    Calls Tryd.prog 40 #[.agg #[.int .i64 n, v]] w fun e w' => ∃ v', e = .returned (.agg #[.int .i64 n, v']) ∧ Own w' w.heap.size w'.heap.size 9 v' (ss hs) ∧ Below w.heap.size w w' := by
  obtain ⟨W, hW⟩ : ∃ W, W = (w.alloc (.cells #[.int .i64 n, v] 34)).alloc (.cells #[.int .i64 0, .slice none 0 0] 34) := ⟨_, rfl⟩
  have r0 : W.heap[w.heap.size]? = some (.cells (ee n v) 34 (0, 0)) := by rw [hW]; exact heap_alloc2_old w _ _
  have r1 : W.heap[w.heap.size + 1]? = some (.cells (ee 0 (.slice none 0 0)) 34 (0, 0)) := by
    rw [hW]
    have := heap_alloc_new (w.alloc (.cells #[.int .i64 n, v] 34)) (.cells #[.int .i64 0, .slice none 0 0] 34)
    simpa [ee] using this
  have hB : Below w.heap.size w W := by rw [hW]; exact ((Below.refl _ _).alloc (Nat.le_refl _) _).alloc (by simp) _
  have hz2' : W.heap.size = w.heap.size + 2 := by rw [hW]; simp
  have c0 := row_at r0 0
  have c1 := row_at r0 1
  simp [ee] at c0 c1
  have q : ∀ (X : World), Below W.heap.size W X → _ := fun X hX => texts_impl X v hs ((h.later hB).later hX) hl hz
  have HR1 : Hid _ := r1
  have HB : Hid _ := hB
  have HZ : Hid _ := hz2'
  have HW : Hid _ := hW
  obtain ⟨ao, cap, rfl, hcap⟩ := h.form
  rw [ss_len] at *
  clear hW r0 r1 hB hz2' h hz
  go_enter Tryd.func40, Tryd.ntmps40
  go_wp2_with fail
  rw [← HW.out]
  refine wp_region_held_drew (S := fun w' => w'.cell? ⟨w.heap.size, 0, none⟩ = some (.int .i64 n) ∧ w'.cell? ⟨w.heap.size, 1, none⟩ = some (.slice ao hs.length cap)) (by kernel_rfl) ⟨c0, c1⟩ (fun hHeld => ?_)
  (refine wpAnyH_take (i := 0) (v := ?v0x1) rfl (by kernel_rfl) (by kernel_rfl) (by kernel_rfl) (fun _ _ _ h => h) (Or.inl ⟨by rfl, ?hy0x1⟩) (by assumption) ?rest0x1; case hy0x1 => (intro w hSw; (try dsimp only at hSw); go_split_ands; go_simp; (try with_reducible rfl)))
  try simp only [Act.put, List.setIfInBounds_toArray, List.set_cons_zero, List.set_cons_succ, List.getElem_toArray, List.getElem_cons_zero, List.getElem_cons_succ]
  (refine wpAnyH_take (i := 1) (v := ?v1x2) rfl (by kernel_rfl) (by kernel_rfl) (by kernel_rfl) (fun _ _ _ h => h) (Or.inl ⟨by rfl, ?hy1x2⟩) (by assumption) ?rest1x2; case hy1x2 => (intro w hSw; (try dsimp only at hSw); go_split_ands; go_simp; (try with_reducible rfl)))
  try simp only [Act.put, List.setIfInBounds_toArray, List.set_cons_zero, List.set_cons_succ, List.getElem_toArray, List.getElem_cons_zero, List.getElem_cons_succ]
  (refine wpAnyH_take (i := 2) (v := ?v2x3) rfl (by kernel_rfl) (by kernel_rfl) (by kernel_rfl) (fun _ _ _ h => h) (Or.inl ⟨by rfl, ?hy2x3⟩) (by assumption) ?rest2x3; case hy2x3 => (intro w hSw; (try dsimp only at hSw); go_split_ands; go_simp; (try with_reducible rfl)))
  try simp only [Act.put, List.setIfInBounds_toArray, List.set_cons_zero, List.set_cons_succ, List.getElem_toArray, List.getElem_cons_zero, List.getElem_cons_succ]
  (refine wpAnyH_take (i := 3) (v := ?v3x4) rfl (by kernel_rfl) (by kernel_rfl) (by kernel_rfl) (fun _ _ _ h => h) (Or.inl ⟨by rfl, ?hy3x4⟩) (by assumption) ?rest3x4; case hy3x4 => (intro w hSw; (try dsimp only at hSw); go_split_ands; go_simp; (try with_reducible rfl)))
  try simp only [Act.put, List.setIfInBounds_toArray, List.set_cons_zero, List.set_cons_succ, List.getElem_toArray, List.getElem_cons_zero, List.getElem_cons_succ]
  refine wpAnyH_ready (rs := [4]) (by kernel_rfl) (by simp) ?_
  refine AllReadyH.cons rfl (fun K hK => ?_) AllReadyH.nil
  go_simp
  refine (q _ (Below.drew (Below.refl _ _))).mono ?_
  rintro e w5 ⟨v5, rfl, o5, b5⟩
  refine hK.out _ _ ⟨keepR hHeld.1 b5, keepR hHeld.2 b5⟩ (fun hHeld => ?_)
  clear hK K
  try simp only [Act.put, List.setIfInBounds_toArray, List.set_cons_zero, List.set_cons_succ, List.getElem_toArray, List.getElem_cons_zero, List.getElem_cons_succ]
  have hz5 : w.heap.size + 2 ≤ w5.heap.size := by have h1 := b5.size; have h2 := HZ.out; have h3 : W.drew.heap.size = W.heap.size := rfl; omega
  have o5 : Own w5 (w.heap.size + 2) w5.heap.size 9 v5 (ss hs) := o5.mono (by have h2 := HZ.out; have h3 : W.drew.heap.size = W.heap.size := rfl; omega) (Nat.le_refl _)
  have J1 : w5.heap[w.heap.size + 1]? = some (.cells (ee 0 (.slice none 0 0)) 34 (0, 0)) := rowKeep (w := W.drew) HR1.out b5
  have JB : Below w.heap.size w w5 := (Below.drew HB.out).trans (b5.mono (by have h2 := HZ.out; have h3 : W.drew.heap.size = W.heap.size := rfl; omega))
  obtain ⟨ao5, L5, cap5, rfl, _, _⟩ := o5.form
  have hne : w.heap.size ≠ w.heap.size + 1 := by omega
  (refine wpAnyH_take (i := 5) (v := ?v5x5) rfl (by kernel_rfl) (by kernel_rfl) (by kernel_rfl) (fun _ _ _ h => h) (Or.inl ⟨by rfl, ?hy5x5⟩) (by assumption) ?rest5x5; case hy5x5 => (intro w hSw; (try dsimp only at hSw); go_split_ands; go_simp; (try with_reducible rfl)))
  try simp only [Act.put, List.setIfInBounds_toArray, List.set_cons_zero, List.set_cons_succ, List.getElem_toArray, List.getElem_cons_zero, List.getElem_cons_succ]
  refine wpAnyH_ready (rs := [6]) (by kernel_rfl) (by simp) ?_
  refine AllReadyH.cons rfl (fun K hK => ?_) AllReadyH.nil
  rw [if_pos (by rfl)]
  refine wp_store_row 34 _ _ rfl (w.heap.size + 1) (ee n (.slice ao5 L5 cap5)) rfl rfl 34 _ J1 (sizeEd _ _) rfl (oneEd _ (Own.one (by assumption))) ?_
  refine hK.out _ _ ⟨cell_row (by exact hne) hHeld.1, cell_row (by exact hne) hHeld.2⟩ (fun hHeld => ?_)
  clear hK K
  try simp only [Act.put, List.setIfInBounds_toArray, List.set_cons_zero, List.set_cons_succ, List.getElem_toArray, List.getElem_cons_zero, List.getElem_cons_succ]
  refine wpAnyH_done (by kernel_rfl) ?_ _
  clear hHeld
  go_wp2
  refine bodyPost_ret (v := .agg (ee n (.slice ao5 L5 cap5))) (results_cell_row rfl _ _ (w.heap.size + 1) 34 _ (0, 0) _ rfl (setRow_heap _ _ _ _ _ (0, 0) J1) Tryd.underlying34 rfl (sizeEd n _)) rfl ⟨_, rfl, ?_, below_setRow JB (by omega) _⟩
  exact (o5.setRow _ (by omega)).mono (by omega) (by simp)

end Go.Proofs.YthbonifpdpknnaaDoor.Ed
