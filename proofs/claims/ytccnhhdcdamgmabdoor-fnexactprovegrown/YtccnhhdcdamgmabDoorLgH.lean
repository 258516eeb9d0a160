/- Chapter 11, the laws' helpers: a log's size, its turning, whether two are the same, marks. -/
import Derived.Test.YtccnhhdcdamgmabDoorLg1
import Derived.Test.YtccnhhdcdamgmabDoorHe2
import Derived.Test.YtccnhhdcdamgmabDoorSz2
import Derived.Test.YtccnhhdcdamgmabDoorStrs
namespace Go.Proofs.YtccnhhdcdamgmabDoor.Lg
open Go.RowKit Go.Proofs.YtccnhhdcdamgmabDoor.Mem Go.Proofs.YtccnhhdcdamgmabDoor.Laws Go.Proofs.YtccnhhdcdamgmabDoor.Bytes Go.Proofs.YtccnhhdcdamgmabDoor.Sha Go.Proofs.YtccnhhdcdamgmabDoor.Tr Go.Proofs.YtccnhhdcdamgmabDoor.He
set_option linter.unusedVariables false
set_option linter.unusedSimpArgs false

theorem alloc3_new (w : World) (A B C : Obj) : (((w.alloc A).alloc B).alloc C).heap[w.heap.size + 1 + 1]? = some C := by
  have h := heap_alloc_new ((w.alloc A).alloc B) C
  simpa using h

set_option maxRecDepth 1000000 in
set_option maxHeartbeats 2000000 in
theorem to_log (w : World) (v : Value) (l : List ByteArray) (h : Hd) (hs : Sl w v (ss l)) (hl : l.length ≤ 1000000000000) :
    Calls Tryd.prog 6 #[.agg #[v, .int .i64 h.n, .string h.r]] w fun e w' => ∃ v', e = .returned (.agg #[v', .int .i64 h.n, .string h.r]) ∧ Own w' w.heap.size w'.heap.size 9 v' (ss l) ∧ Below w.heap.size w w' := by
  obtain ⟨W, hW⟩ : ∃ W, W = ((w.alloc (.cells #[v, .int .i64 h.n, .string h.r] 26)).alloc (.cells #[.slice none 0 0, .int .i64 0, .string ⟨#[]⟩] 32)).alloc (.cells #[.slice none 0 0, .int .i64 0, .string ⟨#[]⟩] 32) := ⟨_, rfl⟩
  have z0 : W.heap.size = w.heap.size + 3 := by rw [hW]; simp
  have r0 : W.heap[w.heap.size]? = some (.cells #[v, .int .i64 h.n, .string h.r] 26 (0, 0)) := by rw [hW, heap_alloc_old _ _ (by simp; omega)]; exact heap_alloc2_old w _ _
  have r1 : W.heap[w.heap.size + 1]? = some (.cells (lc (.slice none 0 0) hd0) 32 (0, 0)) := by rw [hW, heap_alloc_old _ _ (by simp)]; exact heap_alloc2_new w _ _
  have r2 : W.heap[w.heap.size + 1 + 1]? = some (.cells (lc (.slice none 0 0) hd0) 32 (0, 0)) := by rw [hW]; exact alloc3_new w _ _ _
  have hB : Below w.heap.size w W := by rw [hW]; exact (((Below.refl _ _).alloc (Nat.le_refl _) _).alloc (by simp) _).alloc (by simp; omega) _
  have q := Strs.to_s W v l (hs.later hB) hl
  have HR0 : Hid _ := r0
  have HR1 : Hid _ := r1
  have HR2 : Hid _ := r2
  have HB : Hid _ := hB
  have HZ : Hid _ := z0
  have HW : Hid _ := hW
  obtain ⟨ao, cap, rfl, hcap⟩ := hs.form
  rw [ss_len] at *
  clear hW r0 r1 r2 hB z0 hs
  go_enter Tryd.func6, Tryd.ntmps6
  go_wp2_with fail
  rw [← HW.out]
  refine q.mono ?_
  rintro e w4 ⟨v', rfl, o4, b4⟩
  obtain ⟨ao4, L4, cap4, rfl, _, _⟩ := o4.form
  have R0 := rowKeep HR0.out b4
  have R1 := rowKeep HR1.out b4
  have R2 := rowKeep HR2.out b4
  have B4 : Below w.heap.size w w4 := HB.out.trans (b4.mono HB.out.size)
  have k0 : w4.cell? ⟨w.heap.size + 1 + 1, 0, none⟩ = some (.slice none 0 0) := row_at R2 0
  have f0 : w4.frozen? ⟨w.heap.size + 1 + 1, 0, none⟩ = false := row_free R2 0
  obtain ⟨X, hX, S0, S1, S2, SB, SO, SZ⟩ : ∃ X, Hid (w4.setCell ⟨w.heap.size + 1 + 1, 0, none⟩ (.slice ao4 L4 cap4) = X) ∧ X.heap[w.heap.size]? = some (.cells #[.slice ao l.length cap, .int .i64 h.n, .string h.r] 26 (0, 0)) ∧ Hid (X.heap[w.heap.size + 1]? = some (.cells (lc (.slice none 0 0) hd0) 32 (0, 0))) ∧ Hid (X.heap[w.heap.size + 1 + 1]? = some (.cells (lc (.slice ao4 L4 cap4) hd0) 32 (0, 0))) ∧ Hid (Below w.heap.size w X) ∧ Hid (Own X W.heap.size X.heap.size 9 (.slice ao4 L4 cap4) (ss l)) ∧ W.heap.size ≤ X.heap.size := by
    have hz := HZ.out
    refine ⟨_, rfl, ?_, ?_, ?_, ?_, ?_, ?_⟩
    · exact (Below.heap_setCell _ _ _ _ (by show w.heap.size ≠ w.heap.size + 1 + 1; omega)).trans R0
    · exact (Below.heap_setCell _ _ _ _ (by show w.heap.size + 1 ≠ w.heap.size + 1 + 1; omega)).trans R1
    · exact row_set R2 0 _
    · exact B4.setCell (p := ⟨w.heap.size + 1 + 1, 0, none⟩) (by show _ ≤ w.heap.size + 1 + 1; omega) _
    · exact (Own.setCell o4 _ (by omega)).mono (Nat.le_refl _) (by simp [World.setCell])
    · simp [World.setCell]; exact b4.size
  have c1 : X.cell? ⟨w.heap.size, 1, none⟩ = some (.int .i64 h.n) := row_at S0 1
  have c2 : X.cell? ⟨w.heap.size, 2, none⟩ = some (.string h.r) := row_at S0 2
  have qh := to_head X h
  rw [← hX.out] at qh c1 c2
  clear R0 R1 R2 o4 B4 q HB HR1 HR2 HR0 HW b4 S0
  go_wp2_with fail
  refine qh.mono ?_
  rw [hX.out]
  rintro e w6 ⟨rfl, b6⟩
  have T1 := rowKeep S1.out b6
  have T2 := rowKeep S2.out b6
  have TB : Below w.heap.size w w6 := SB.out.trans (b6.mono SB.out.size)
  have TO : Hid (Own w6 W.heap.size X.heap.size 9 (.slice ao4 L4 cap4) (ss l)) := Own.later SO.out b6 (Nat.le_refl _)
  have b6s := b6.size
  have th : w6.there (w.heap.size + 1 + 1) 1 2 := there_row T2 (by show _ ≤ 3; omega)
  obtain ⟨Y, HY, Y1, Y2, YB, YO, YZ⟩ : ∃ Y, Hid (w6.setCells (w.heap.size + 1 + 1) 1 (hc h).toList = Y) ∧ Hid (Y.heap[w.heap.size + 1]? = some (.cells (lc (.slice none 0 0) hd0) 32 (0, 0))) ∧ Hid (Y.heap[w.heap.size + 1 + 1]? = some (.cells (lc (.slice ao4 L4 cap4) h) 32 (0, 0))) ∧ Hid (Below w.heap.size w Y) ∧ Hid (Own Y W.heap.size X.heap.size 9 (.slice ao4 L4 cap4) (ss l)) ∧ X.heap.size ≤ Y.heap.size := by
    have hz := HZ.out
    refine ⟨_, rfl, ?_, ?_, ?_, ?_, ?_⟩
    · exact (heap_setCells_other (w.heap.size + 1 + 1) (w.heap.size + 1) (by omega) _ _ w6).trans T1
    · exact heap_setCells _ _ _ w6 (lc (.slice ao4 L4 cap4) hd0).toList _ T2
    · exact below_setCells (by omega) _ _ w6 TB
    · exact Own.keep TO.out (fun k hk1 hk2 => heap_setCells_other (w.heap.size + 1 + 1) k (by omega) _ _ w6)
    · rw [size_setCells]; exact b6s
  clear T1 T2 TB TO qh b6 S1 S2 SB SO hX c1 c2
  go_wp2_with (first | (refine wpList_store_mid rfl 30 _ _ rfl (w.heap.size + 1 + 1) 1 (hc h) rfl rfl th (sizeH _) (oneH _) ?_; rw [HY.out]) | (refine wpList_load_row rfl 32 _ rfl (w.heap.size + 1 + 1) rfl 32 (lc (.slice ao4 L4 cap4) h) (0, 0) _ Y2.out Tryd.underlying32 rfl (sizeL _ _) ?_) | (refine wpList_store_row rfl 32 _ _ rfl (w.heap.size + 1) (lc (.slice ao4 L4 cap4) h) rfl rfl 32 _ Y1.out (sizeL _ _) rfl (oneL _ rfl) ?_))
  refine bodyPost_ret (v := .agg (lc (.slice ao4 L4 cap4) h)) (results_cell_row rfl _ _ (w.heap.size + 1) 32 _ (0, 0) _ rfl (setRow_heap _ _ _ _ _ (0, 0) Y1.out) Tryd.underlying32 rfl (sizeL _ _)) rfl ⟨_, rfl, ?_, below_setRow YB.out (by omega) _⟩
  have hz := HZ.out
  exact (Own.setRow YO.out _ (by omega)).mono (by omega) (by simp; omega)

set_option maxRecDepth 1000000 in
set_option maxHeartbeats 2000000 in
theorem sz_log (w : World) (v : Value) (l : List ByteArray) (h : Hd) (left : Nat) (hs : Sl w v (ss l)) (hz : ∀ s ∈ l, s.size ≤ 9223372036854775807) (hx : l.length ≤ 9223372036854775807) (hr : h.r.size ≤ 9223372036854775807) (hlf : left ≤ 1048576) :
    Calls Tryd.prog 4 #[.agg #[v, .int .i64 h.n, .string h.r], .int .i64 (left : Int)] w fun e w' => (∃ r : Int, e = .returned (.int .i64 r) ∧ (r < 0 ∨ (l.length + Puts.tot l ≤ left ∧ h.r.size ≤ left ∧ 0 ≤ r ∧ r ≤ left))) ∧ Below w.heap.size w w' := by
  have hB : Below w.heap.size w (w.alloc (.cells #[v, .int .i64 h.n, .string h.r] 26)) := (Below.refl _ _).alloc (Nat.le_refl _) _
  have q := Strs.sz_any2 (w.alloc (.cells #[v, .int .i64 h.n, .string h.r] 26)) v l left (hs.later hB) hz hx hlf
  have HB : Hid _ := hB
  obtain ⟨ao, cap, rfl, hcap⟩ := hs.form
  rw [ss_len] at *
  clear hB hs
  go_enter Tryd.func4, Tryd.ntmps4
  go_wp2_with fail
  refine q.mono ?_
  rintro e WX ⟨⟨r, rfl, hr0⟩, hWX⟩
  subst hWX
  clear q
  by_cases h0 : r < 0
  · go_wp2
    go_ret
    exact ⟨⟨-1, rfl, .inl (by omega)⟩, HB.out⟩
  · rcases hr0 with hr0 | ⟨hr1, hr2, hr3⟩
    · exact absurd hr0 h0
    have qh : ∀ W, _ := fun W => sz_head W h r hr hr2 (by omega)
    by_cases hb : r - (h.r.size : Int) < 0
    · simp only [if_pos hb] at qh
      go_wp2_with fail
      refine (qh _).mono ?_
      rintro e w2 ⟨rfl, b2⟩
      have B2 : Below w.heap.size w w2 := HB.out.trans (b2.mono HB.out.size)
      clear qh
      go_wp2
      go_ret
      exact ⟨⟨-1, rfl, .inl (by omega)⟩, B2⟩
    · simp only [if_neg hb] at qh
      have hle : h.r.size ≤ left := by omega
      obtain ⟨m, hm⟩ : ∃ m, r - (h.r.size : Int) = m := ⟨_, rfl⟩
      have hm2 : 0 ≤ m ∧ m ≤ (left : Int) := by omega
      rw [hm] at hb
      simp only [hm] at qh
      clear hm
      go_wp2_with fail
      refine (qh _).mono ?_
      rintro e w2 ⟨rfl, b2⟩
      have B2 : Below w.heap.size w w2 := HB.out.trans (b2.mono HB.out.size)
      clear qh
      go_wp2
      go_ret
      exact ⟨⟨m, rfl, .inr ⟨hr1, hle, hm2.1, hm2.2⟩⟩, B2⟩

set_option maxRecDepth 1000000 in
set_option maxHeartbeats 2000000 in
theorem eq_log (w : World) (h : Hd) (v1 v2 : Value) (l : List ByteArray) (h1 : Sl w v1 (ss l)) (h2 : Sl w v2 (ss l)) (hl : l.length ≤ 1000000000000) :
    Calls Tryd.prog 9 #[.agg #[v1, .int .i64 h.n, .string h.r], .agg #[v2, .int .i64 h.n, .string h.r]] w fun e w' => e = .returned (.bool true) ∧ Below w.heap.size w w' := by
  obtain ⟨W, hW, r0, r1, HB⟩ : ∃ W, Hid ((w.alloc (.cells #[v1, .int .i64 h.n, .string h.r] 32)).alloc (.cells #[v2, .int .i64 h.n, .string h.r] 32) = W) ∧ W.heap[w.heap.size]? = some (.cells #[v1, .int .i64 h.n, .string h.r] 32 (0, 0)) ∧ W.heap[w.heap.size + 1]? = some (.cells #[v2, .int .i64 h.n, .string h.r] 32 (0, 0)) ∧ Hid (Below w.heap.size w W) := ⟨_, rfl, heap_alloc2_old w _ _, heap_alloc2_new w _ _, ((Below.refl _ _).alloc (Nat.le_refl _) _).alloc (by simp) _⟩
  have q := Strs.eqs_true W v1 v2 l (h1.later HB.out) (h2.later HB.out) hl
  obtain ⟨ao, cap, rfl, hcap⟩ := h1.form
  obtain ⟨ao2, cap2, rfl, hcap2⟩ := h2.form
  rw [ss_len] at *
  have qh : ∀ W', _ := fun W' => eq_head W' h
  have q' := q
  rw [← hW.out] at q'
  clear h1 h2 q
  go_enter Tryd.func9, Tryd.ntmps9
  go_wp2_with fail
  refine q'.mono ?_
  rw [hW.out]
  rintro e w1 ⟨rfl, b1, _⟩
  have s0 := rowKeep r0 (b1 _)
  have s1 := rowKeep r1 (b1 _)
  have c1 : w1.cell? ⟨w.heap.size, 1, none⟩ = some (.int .i64 h.n) := row_at s0 1
  have c2 : w1.cell? ⟨w.heap.size, 2, none⟩ = some (.string h.r) := row_at s0 2
  have d1 : w1.cell? ⟨w.heap.size + 1, 1, none⟩ = some (.int .i64 h.n) := row_at s1 1
  have d2 : w1.cell? ⟨w.heap.size + 1, 2, none⟩ = some (.string h.r) := row_at s1 2
  have HB1 : Hid (Below w.heap.size w w1) := HB.out.trans ((b1 _).mono HB.out.size)
  clear q' b1 HB s0 s1 r0 r1
  go_wp2_with fail
  refine (qh _).mono ?_
  rintro e w2 ⟨rfl, b2⟩
  have HB2 : Hid (Below w.heap.size w w2) := HB1.out.trans (b2.mono HB1.out.size)
  clear qh b2 HB1
  go_wp2
  go_ret
  exact ⟨rfl, HB2.out⟩

set_option maxRecDepth 1000000 in
set_option maxHeartbeats 2000000 in
theorem mark_log (w : World) (n : Hd) (v : Value) (lo hi : Nat) (hs : List ByteArray) (k0 : Nat) (h : Own w lo hi 9 v (ss hs)) (hhi : hi ≤ w.heap.size) (hx : hs.length ≤ 1000000000) (hk1 : 1 ≤ k0) (hk0 : k0 ≤ 1000000000) :
    Calls Tryd.prog 10 #[.agg #[v, .int .i64 n.n, .string n.r], .int .i64 (k0 : Int)] w fun e w' => e = .returned (.int .i64 ((k0 + hs.length : Nat) : Int)) ∧ Own w' lo hi 9 v (ss (Strs.mts k0 hs.length)) ∧ Apart lo hi w w' := by
  have hb : Below w.heap.size w (w.alloc (.cells #[v, .int .i64 n.n, .string n.r] 32)) := (Below.refl _ _).alloc (Nat.le_refl _) _
  have q := Strs.marks_any (w.alloc (.cells #[v, .int .i64 n.n, .string n.r] 32)) v lo hi hs k0 (h.later hb hhi) (Nat.le_trans hhi hb.size) (by omega) hk1 (by omega)
  have HA : Hid (Apart lo hi w (w.alloc (.cells #[v, .int .i64 n.n, .string n.r] 32))) := (Apart.refl lo hi w).grow hb
  obtain ⟨ao, L, cap, rfl, _, _⟩ := h.form
  obtain ⟨m, hm⟩ : ∃ m : Int, ((k0 + hs.length : Nat) : Int) = m := ⟨_, rfl⟩
  rw [hm] at q ⊢
  clear h hb hm
  go_enter Tryd.func10, Tryd.ntmps10
  go_wp2_with fail
  refine q.mono ?_
  rintro e w1 ⟨rfl, o1, a1⟩
  have HO : Hid _ := o1
  have HA2 : Hid (Apart lo hi w w1) := HA.out.trans a1
  clear q o1 a1 HA
  go_wp2
  go_ret
  exact ⟨rfl, HO.out, HA2.out⟩

/-- marks from k on, as heads -/
def mh (k : Nat) : Hd := ⟨(k : Int), Strs.mt (k + 1)⟩
def mhs (k n : Nat) : List Hd := (List.range n).map fun i => mh (k + 2 * i)
theorem mhs_len (k n : Nat) : (mhs k n).length = n := by simp [mhs]
theorem mhs_get (k n j : Nat) (h : j < n) : (mhs k n)[j]? = some (mh (k + 2 * j)) := by simp [mhs, h]
theorem own_keepH {n m cap lo g : Nat} {e : TypeId} {w w' : World} {cs : List Value} (h : w.ownsRow lo e n (.slice (some ⟨g, 0, none⟩) m cap) m cs) (hk : w'.heap[g]? = w.heap[g]?) : w'.ownsRow lo e n (.slice (some ⟨g, 0, none⟩) m cap) m cs := by
  refine ⟨h.1, ?_⟩
  rcases h.2 with ⟨h', _⟩ | ⟨g', cap', cur, h', hq, hh, r⟩
  · simp at h'
  · simp only [Value.slice.injEq, Option.some.injEq, Addr.mk.injEq, and_true, true_and] at h'
    obtain ⟨rfl, rfl⟩ := h'
    exact .inr ⟨g, cap, cur, rfl, hq, by rw [hk]; exact hh, r⟩

end Go.Proofs.YtccnhhdcdamgmabDoor.Lg
