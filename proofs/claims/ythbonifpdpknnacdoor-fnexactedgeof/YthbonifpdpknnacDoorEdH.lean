/- Chapter 7, the laws' helpers: an edge's size, its turning, whether two are the same, marks. -/
import Derived.Test.YthbonifpdpknnacDoorEd2
import Derived.Test.YthbonifpdpknnacDoorSz2
namespace Go.Proofs.YthbonifpdpknnacDoor.Ed
open Go.RowKit Go.Proofs.YthbonifpdpknnacDoor.Mem Go.Proofs.YthbonifpdpknnacDoor.Laws Go.Proofs.YthbonifpdpknnacDoor.Bytes Go.Proofs.YthbonifpdpknnacDoor.Sha Go.Proofs.YthbonifpdpknnacDoor.Tr
set_option linter.unusedVariables false
set_option linter.unusedSimpArgs false

set_option maxRecDepth 1000000 in
set_option maxHeartbeats 2000000 in
theorem to_edge (w : World) (n : Int) (v : Value) (hs : List ByteArray) (h : Sl w v (ss hs)) (hl : hs.length ≤ 1000000000000) :
    Calls Tryd.prog 18 #[.agg #[.int .i64 n, v]] w fun e w' => ∃ v', e = .returned (.agg #[.int .i64 n, v']) ∧ Own w' w.heap.size w'.heap.size 9 v' (ss hs) ∧ Below w.heap.size w w' := by
  obtain ⟨W, hW⟩ : ∃ W, W = ((w.alloc (.cells #[.int .i64 n, v] 32)).alloc (.cells #[.int .i64 0, .slice none 0 0] 25)).alloc (.cells #[.int .i64 n, .slice none 0 0] 25) := ⟨_, rfl⟩
  have z0 : W.heap.size = w.heap.size + 3 := by rw [hW]; simp
  have r1 : W.heap[w.heap.size + 1]? = some (.cells (ee 0 (.slice none 0 0)) 25 (0, 0)) := by
    rw [hW, heap_alloc_old _ _ (by simp)]
    have := heap_alloc_new (w.alloc (.cells #[.int .i64 n, v] 32)) (.cells #[.int .i64 0, .slice none 0 0] 25)
    simpa [ee] using this
  have r2 : W.heap[w.heap.size + 1 + 1]? = some (.cells (ee n (.slice none 0 0)) 25 (0, 0)) := by
    rw [hW]
    have := heap_alloc_new ((w.alloc (.cells #[.int .i64 n, v] 32)).alloc (.cells #[.int .i64 0, .slice none 0 0] 25)) (.cells #[.int .i64 n, .slice none 0 0] 25)
    simpa [ee] using this
  have hB : Below w.heap.size w W := by rw [hW]; exact (((Below.refl _ _).alloc (Nat.le_refl _) _).alloc (by simp) _).alloc (by simp; omega) _
  have q := Strs.to_s W v hs (h.later hB) hl
  have HR1 : Hid _ := r1
  have HR2 : Hid _ := r2
  have HB : Hid _ := hB
  have HZ : Hid _ := z0
  have HW : Hid _ := hW
  obtain ⟨ao, cap, rfl, hcap⟩ := h.form
  rw [ss_len] at *
  clear hW r1 r2 hB z0 h
  go_enter Tryd.func18, Tryd.ntmps18
  go_wp2_with fail
  rw [← HW.out]
  refine q.mono ?_
  rintro e w4 ⟨v', rfl, o4, b4⟩
  obtain ⟨ao4, L4, cap4, rfl, _, _⟩ := o4.form
  have R1 := rowKeep HR1.out b4
  have R2 := rowKeep HR2.out b4
  have B4 : Below w.heap.size w w4 := HB.out.trans (b4.mono HB.out.size)
  have k1 : w4.cell? ⟨w.heap.size + 1 + 1, 1, none⟩ = some (.slice none 0 0) := row_at R2 1
  have f1 : w4.frozen? ⟨w.heap.size + 1 + 1, 1, none⟩ = false := row_free R2 1
  have HR5 : Hid ((w4.setCell ⟨w.heap.size + 1 + 1, 1, none⟩ (.slice ao4 L4 cap4)).heap[w.heap.size + 1 + 1]? = some (.cells (ee n (.slice ao4 L4 cap4)) 25 (0, 0))) := row_set R2 1 _
  have HR6 : Hid ((w4.setCell ⟨w.heap.size + 1 + 1, 1, none⟩ (.slice ao4 L4 cap4)).heap[w.heap.size + 1]? = some (.cells (ee 0 (.slice none 0 0)) 25 (0, 0))) := (Below.heap_setCell _ _ _ _ (by show w.heap.size + 1 ≠ w.heap.size + 1 + 1; omega)).trans R1
  have HO : Hid (Own w4 W.heap.size w4.heap.size 9 (.slice ao4 L4 cap4) (ss hs)) := o4
  have HB7 : Hid (Below w.heap.size w (w4.setCell ⟨w.heap.size + 1 + 1, 1, none⟩ (.slice ao4 L4 cap4))) := B4.setCell (p := ⟨w.heap.size + 1 + 1, 1, none⟩) (by show _ ≤ w.heap.size + 1 + 1; omega) _
  clear R1 R2 o4 B4 q HB HR1 HR2 HW b4
  go_wp2_with (first | (refine wpList_load_row rfl 25 _ rfl (w.heap.size + 1 + 1) rfl 25 (ee n (.slice ao4 L4 cap4)) (0, 0) _ HR5.out Tryd.underlying25 rfl (sizeEd _ _) ?_) | (refine wpList_store_row rfl 25 _ _ rfl (w.heap.size + 1) (ee n (.slice ao4 L4 cap4)) rfl rfl 25 _ HR6.out (sizeEd _ _) rfl (oneEd _ rfl) ?_))
  refine bodyPost_ret (v := .agg (ee n (.slice ao4 L4 cap4))) (results_cell_row rfl _ _ (w.heap.size + 1) 25 _ (0, 0) _ rfl (setRow_heap _ _ _ _ _ (0, 0) HR6.out) Tryd.underlying25 rfl (sizeEd n _)) rfl ⟨_, rfl, ?_, below_setRow HB7.out (by omega) _⟩
  have hz := HZ.out
  exact (Own.setRow (Own.setCell HO.out _ (by omega)) _ (by omega)).mono (by omega) (by simp [World.setCell])

set_option maxRecDepth 1000000 in
set_option maxHeartbeats 2000000 in
theorem sz_edge (w : World) (n : Int) (v : Value) (hs : List ByteArray) (left : Nat) (h : Sl w v (ss hs)) (hz : ∀ s ∈ hs, s.size ≤ 9223372036854775807) (hx : hs.length ≤ 9223372036854775807) (hlf : left ≤ 1048576) :
    Calls Tryd.prog 16 #[.agg #[.int .i64 n, v], .int .i64 (left : Int)] w fun e w' => (∃ r : Int, e = .returned (.int .i64 r) ∧ (r < 0 ∨ (hs.length + Puts.tot hs ≤ left ∧ 0 ≤ r ∧ r ≤ left))) ∧ Below w.heap.size w w' := by
  have hB : Below w.heap.size w (w.alloc (.cells #[.int .i64 n, v] 32)) := (Below.refl _ _).alloc (Nat.le_refl _) _
  have q := Strs.sz_any2 (w.alloc (.cells #[.int .i64 n, v] 32)) v hs left (h.later hB) hz hx hlf
  have HB : Hid _ := hB
  obtain ⟨ao, cap, rfl, hcap⟩ := h.form
  rw [ss_len] at *
  clear hB h
  go_enter Tryd.func16, Tryd.ntmps16
  go_wp2_with fail
  refine q.mono ?_
  rintro e WX ⟨⟨r, rfl, hr⟩, hWX⟩
  subst hWX
  clear q
  by_cases h0 : r < 0
  · go_wp2
    go_ret
    exact ⟨⟨-1, rfl, .inl (by omega)⟩, HB.out⟩
  · go_wp2
    go_ret
    refine ⟨⟨r, rfl, .inr ?_⟩, HB.out⟩
    rcases hr with hr | hr
    · omega
    · exact hr

set_option maxRecDepth 1000000 in
set_option maxHeartbeats 2000000 in
theorem eq_edge (w : World) (n : Int) (v1 v2 : Value) (hs : List ByteArray) (h1 : Sl w v1 (ss hs)) (h2 : Sl w v2 (ss hs)) (hl : hs.length ≤ 1000000000000) :
    Calls Tryd.prog 11 #[.agg #[.int .i64 n, v1], .agg #[.int .i64 n, v2]] w fun e w' => e = .returned (.bool true) ∧ Below w.heap.size w w' := by
  have hB : Below w.heap.size w ((w.alloc (.cells #[.int .i64 n, v1] 25)).alloc (.cells #[.int .i64 n, v2] 25)) := ((Below.refl _ _).alloc (Nat.le_refl _) _).alloc (by simp) _
  have q := Strs.eqs_true _ v1 v2 hs (h1.later hB) (h2.later hB) hl
  have HB : Hid _ := hB
  obtain ⟨ao, cap, rfl, hcap⟩ := h1.form
  obtain ⟨ao2, cap2, rfl, hcap2⟩ := h2.form
  rw [ss_len] at *
  have nn : (n != n) = false := by simp
  clear hB h1 h2
  go_enter Tryd.func11, Tryd.ntmps11
  go_wp2_with fail
  refine q.mono ?_
  rintro e w1 ⟨rfl, b1, _⟩
  have HB1 : Hid (Below w.heap.size w w1) := HB.out.trans (b1 _)
  clear q b1 HB
  go_wp2
  go_ret
  exact ⟨rfl, HB1.out⟩

set_option maxRecDepth 1000000 in
set_option maxHeartbeats 2000000 in
theorem mark_edge (w : World) (n : Int) (v : Value) (lo hi : Nat) (hs : List ByteArray) (k0 : Nat) (h : Own w lo hi 9 v (ss hs)) (hhi : hi ≤ w.heap.size) (hx : hs.length ≤ 1000000000) (hk1 : 1 ≤ k0) (hk0 : k0 ≤ 1000000000) :
    Calls Tryd.prog 14 #[.agg #[.int .i64 n, v], .int .i64 (k0 : Int)] w fun e w' => e = .returned (.int .i64 ((k0 + hs.length : Nat) : Int)) ∧ Own w' lo hi 9 v (ss (Strs.mts k0 hs.length)) ∧ Apart lo hi w w' := by
  have hb : Below w.heap.size w (w.alloc (.cells #[.int .i64 n, v] 25)) := (Below.refl _ _).alloc (Nat.le_refl _) _
  have q := Strs.marks_any (w.alloc (.cells #[.int .i64 n, v] 25)) v lo hi hs k0 (h.later hb hhi) (Nat.le_trans hhi hb.size) (by omega) hk1 (by omega)
  have HA : Hid (Apart lo hi w (w.alloc (.cells #[.int .i64 n, v] 25))) := (Apart.refl lo hi w).grow hb
  obtain ⟨ao, L, cap, rfl, _, _⟩ := h.form
  obtain ⟨m, hm⟩ : ∃ m : Int, ((k0 + hs.length : Nat) : Int) = m := ⟨_, rfl⟩
  rw [hm] at q ⊢
  clear h hb hm
  go_enter Tryd.func14, Tryd.ntmps14
  go_wp2_with fail
  refine q.mono ?_
  rintro e w1 ⟨rfl, o1, a1⟩
  have HO : Hid _ := o1
  have HA2 : Hid (Apart lo hi w w1) := HA.out.trans a1
  clear q o1 a1 HA
  go_wp2
  go_ret
  exact ⟨rfl, HO.out, HA2.out⟩

set_option maxRecDepth 1000000 in
set_option maxHeartbeats 2000000 in
theorem held_edge (w : World) (n : Int) (v : Value) (m k0 : Nat) (h : Sl w v (ss (Strs.mts k0 m))) (hx : m ≤ 1000000000) (hk1 : 1 ≤ k0) (hk0 : k0 ≤ 1000000000) :
    Calls Tryd.prog 15 #[.agg #[.int .i64 n, v], .int .i64 (k0 : Int)] w fun e w' => e = .returned (.int .i64 ((k0 + m : Nat) : Int)) ∧ Below w.heap.size w w' := by
  have HB : Hid (Below w.heap.size w (w.alloc (.cells #[.int .i64 n, v] 25))) := (Below.refl _ _).alloc (Nat.le_refl _) _
  have q := Strs.helds_any (w.alloc (.cells #[.int .i64 n, v] 25)) v m k0 (h.later HB.out) (by omega) hk1 (by omega)
  obtain ⟨ao, cap, rfl, _⟩ := h.form
  obtain ⟨r, hr⟩ : ∃ r : Int, ((k0 + m : Nat) : Int) = r := ⟨_, rfl⟩
  have hr0 : ¬ r < 0 := by omega
  rw [hr] at q ⊢
  clear hr
  go_enter Tryd.func15, Tryd.ntmps15
  go_wp2_with fail
  refine q.mono ?_
  rintro e w1 ⟨rfl, b1⟩
  have HB1 : Hid (Below w.heap.size w w1) := HB.out.trans (b1.mono HB.out.size)
  clear q b1 HB
  go_wp2
  go_ret
  exact ⟨rfl, HB1.out⟩

end Go.Proofs.YthbonifpdpknnacDoor.Ed
