/- Texts in one: LgH, SrH. -/
import Derived.Test.YtfpaichdkddglabDoorPk11
import Derived.Test.YtfpaichdkddglabDoorPk12
import Derived.Test.YtfpaichdkddglabDoorPk9
/- Chapter 11, the laws' helpers: a log's size, its turning, whether two are the same, marks. -/
namespace Go.Proofs.YtfpaichdkddglabDoor.Lg
open Go.RowKit Go.Proofs.YtfpaichdkddglabDoor.Mem Go.Proofs.YtfpaichdkddglabDoor.Laws Go.Proofs.YtfpaichdkddglabDoor.Bytes Go.Proofs.YtfpaichdkddglabDoor.Sha Go.Proofs.YtfpaichdkddglabDoor.Tr Go.Proofs.YtfpaichdkddglabDoor.He
set_option linter.unusedVariables false
set_option linter.unusedSimpArgs false

theorem alloc3_new (w : World) (A B C : Obj) : (((w.alloc A).alloc B).alloc C).heap[w.heap.size + 1 + 1]? = some C := by
  have h := heap_alloc_new ((w.alloc A).alloc B) C
  simpa using h

set_option maxRecDepth 1000000 in
set_option maxHeartbeats 2000000 in
theorem to_log (w : World) (v : Value) (l : List ByteArray) (h : Hd) (hs : Sl w v (ss l)) (hl : l.length ≤ 1000000000000) :
    Calls Tryd.prog 28 #[.agg #[v, .int .i64 h.n, .string h.r]] w fun e w' => ∃ v', e = .returned (.agg #[v', .int .i64 h.n, .string h.r]) ∧ Own w' w.heap.size w'.heap.size 9 v' (ss l) ∧ Below w.heap.size w w' := by
  obtain ⟨W, hW⟩ : ∃ W, W = ((w.alloc (.cells #[v, .int .i64 h.n, .string h.r] 36)).alloc (.cells #[.slice none 0 0, .int .i64 0, .string ⟨#[]⟩] 26)).alloc (.cells #[.slice none 0 0, .int .i64 0, .string ⟨#[]⟩] 26) := ⟨_, rfl⟩
  have z0 : W.heap.size = w.heap.size + 3 := by rw [hW]; simp
  have r0 : W.heap[w.heap.size]? = some (.cells #[v, .int .i64 h.n, .string h.r] 36 (0, 0)) := by rw [hW, heap_alloc_old _ _ (by simp; omega)]; exact heap_alloc2_old w _ _
  have r1 : W.heap[w.heap.size + 1]? = some (.cells (lc (.slice none 0 0) hd0) 26 (0, 0)) := by rw [hW, heap_alloc_old _ _ (by simp)]; exact heap_alloc2_new w _ _
  have r2 : W.heap[w.heap.size + 1 + 1]? = some (.cells (lc (.slice none 0 0) hd0) 26 (0, 0)) := by rw [hW]; exact alloc3_new w _ _ _
  have hB : Below w.heap.size w W := by rw [hW]; exact (((Below.refl _ _).alloc (Nat.le_refl _) _).alloc (by simp) _).alloc (by simp; omega) _
  have q := Strs.to_s W v l (hs.later hB) hl
  have HR0 : Hid _ := r0
  have HR1 : Hid _ := r1
  have HR2 : Hid _ := r2
  have HB : Hid _ := hB
  have HZ : Hid _ := z0
  have HW : Hid _ := hW
  obtain ⟨ao, cap, rfl, hcap⟩ := hs.form
  rw [ss_len] at *
  clear hW r0 r1 r2 hB z0 hs
  go_enter Tryd.func28, Tryd.ntmps28
  go_wp2_with fail
  rw [← HW.out]
  refine q.mono ?_
  rintro e w4 ⟨v', rfl, o4, b4⟩
  obtain ⟨ao4, L4, cap4, rfl, _, _⟩ := o4.form
  have R0 := rowKeep HR0.out b4
  have R1 := rowKeep HR1.out b4
  have R2 := rowKeep HR2.out b4
  have B4 : Below w.heap.size w w4 := HB.out.trans (b4.mono HB.out.size)
  have k0 : w4.cell? ⟨w.heap.size + 1 + 1, 0, none⟩ = some (.slice none 0 0) := row_at R2 0
  have f0 : w4.frozen? ⟨w.heap.size + 1 + 1, 0, none⟩ = false := row_free R2 0
  obtain ⟨X, hX, S0, S1, S2, SB, SO, SZ⟩ : ∃ X, Hid (w4.setCell ⟨w.heap.size + 1 + 1, 0, none⟩ (.slice ao4 L4 cap4) = X) ∧ X.heap[w.heap.size]? = some (.cells #[.slice ao l.length cap, .int .i64 h.n, .string h.r] 36 (0, 0)) ∧ Hid (X.heap[w.heap.size + 1]? = some (.cells (lc (.slice none 0 0) hd0) 26 (0, 0))) ∧ Hid (X.heap[w.heap.size + 1 + 1]? = some (.cells (lc (.slice ao4 L4 cap4) hd0) 26 (0, 0))) ∧ Hid (Below w.heap.size w X) ∧ Hid (Own X W.heap.size X.heap.size 9 (.slice ao4 L4 cap4) (ss l)) ∧ W.heap.size ≤ X.heap.size := by
    have hz := HZ.out
    refine ⟨_, rfl, ?_, ?_, ?_, ?_, ?_, ?_⟩
    · exact (Below.heap_setCell _ _ _ _ (by show w.heap.size ≠ w.heap.size + 1 + 1; omega)).trans R0
    · exact (Below.heap_setCell _ _ _ _ (by show w.heap.size + 1 ≠ w.heap.size + 1 + 1; omega)).trans R1
    · exact row_set R2 0 _
    · exact B4.setCell (p := ⟨w.heap.size + 1 + 1, 0, none⟩) (by show _ ≤ w.heap.size + 1 + 1; omega) _
    · exact (Own.setCell o4 _ (by omega)).mono (Nat.le_refl _) (by simp [World.setCell])
    · simp [World.setCell]; exact b4.size
  have c1 : X.cell? ⟨w.heap.size, 1, none⟩ = some (.int .i64 h.n) := row_at S0 1
  have c2 : X.cell? ⟨w.heap.size, 2, none⟩ = some (.string h.r) := row_at S0 2
  have qh := to_head X h
  rw [← hX.out] at qh c1 c2
  clear R0 R1 R2 o4 B4 q HB HR1 HR2 HR0 HW b4 S0
  go_wp2_with fail
  refine qh.mono ?_
  rw [hX.out]
  rintro e w6 ⟨rfl, b6⟩
  have T1 := rowKeep S1.out b6
  have T2 := rowKeep S2.out b6
  have TB : Below w.heap.size w w6 := SB.out.trans (b6.mono SB.out.size)
  have TO : Hid (Own w6 W.heap.size X.heap.size 9 (.slice ao4 L4 cap4) (ss l)) := Own.later SO.out b6 (Nat.le_refl _)
  have b6s := b6.size
  have th : w6.there (w.heap.size + 1 + 1) 1 2 := there_row T2 (by show _ ≤ 3; omega)
  obtain ⟨Y, HY, Y1, Y2, YB, YO, YZ⟩ : ∃ Y, Hid (w6.setCells (w.heap.size + 1 + 1) 1 (hc h).toList = Y) ∧ Hid (Y.heap[w.heap.size + 1]? = some (.cells (lc (.slice none 0 0) hd0) 26 (0, 0))) ∧ Hid (Y.heap[w.heap.size + 1 + 1]? = some (.cells (lc (.slice ao4 L4 cap4) h) 26 (0, 0))) ∧ Hid (Below w.heap.size w Y) ∧ Hid (Own Y W.heap.size X.heap.size 9 (.slice ao4 L4 cap4) (ss l)) ∧ X.heap.size ≤ Y.heap.size := by
    have hz := HZ.out
    refine ⟨_, rfl, ?_, ?_, ?_, ?_, ?_⟩
    · exact (heap_setCells_other (w.heap.size + 1 + 1) (w.heap.size + 1) (by omega) _ _ w6).trans T1
    · exact heap_setCells _ _ _ w6 (lc (.slice ao4 L4 cap4) hd0).toList _ T2
    · exact below_setCells (by omega) _ _ w6 TB
    · exact Own.keep TO.out (fun k hk1 hk2 => heap_setCells_other (w.heap.size + 1 + 1) k (by omega) _ _ w6)
    · rw [size_setCells]; exact b6s
  clear T1 T2 TB TO qh b6 S1 S2 SB SO hX c1 c2
  go_wp2_with (first | (refine wpList_store_mid rfl 24 _ _ rfl (w.heap.size + 1 + 1) 1 (hc h) rfl rfl th (sizeH _) (oneH _) ?_; rw [HY.out]) | (refine wpList_load_row rfl 26 _ rfl (w.heap.size + 1 + 1) rfl 26 (lc (.slice ao4 L4 cap4) h) (0, 0) _ Y2.out Tryd.underlying26 rfl (sizeL _ _) ?_) | (refine wpList_store_row rfl 26 _ _ rfl (w.heap.size + 1) (lc (.slice ao4 L4 cap4) h) rfl rfl 26 _ Y1.out (sizeL _ _) rfl (oneL _ rfl) ?_))
  refine bodyPost_ret (v := .agg (lc (.slice ao4 L4 cap4) h)) (results_cell_row rfl _ _ (w.heap.size + 1) 26 _ (0, 0) _ rfl (setRow_heap _ _ _ _ _ (0, 0) Y1.out) Tryd.underlying26 rfl (sizeL _ _)) rfl ⟨_, rfl, ?_, below_setRow YB.out (by omega) _⟩
  have hz := HZ.out
  exact (Own.setRow YO.out _ (by omega)).mono (by omega) (by simp; omega)

set_option maxRecDepth 1000000 in
set_option maxHeartbeats 2000000 in
theorem sz_log (w : World) (v : Value) (l : List ByteArray) (h : Hd) (left : Nat) (hs : Sl w v (ss l)) (hz : ∀ s ∈ l, s.size ≤ 9223372036854775807) (hx : l.length ≤ 9223372036854775807) (hr : h.r.size ≤ 9223372036854775807) (hlf : left ≤ 1048576) :
    Calls Tryd.prog 22 #[.agg #[v, .int .i64 h.n, .string h.r], .int .i64 (left : Int)] w fun e w' => (∃ r : Int, e = .returned (.int .i64 r) ∧ (r < 0 ∨ (l.length + Puts.tot l ≤ left ∧ h.r.size ≤ left ∧ 0 ≤ r ∧ r ≤ left))) ∧ Below w.heap.size w w' := by
  have hB : Below w.heap.size w (w.alloc (.cells #[v, .int .i64 h.n, .string h.r] 36)) := (Below.refl _ _).alloc (Nat.le_refl _) _
  have q := Strs.sz_any2 (w.alloc (.cells #[v, .int .i64 h.n, .string h.r] 36)) v l left (hs.later hB) hz hx hlf
  have HB : Hid _ := hB
  obtain ⟨ao, cap, rfl, hcap⟩ := hs.form
  rw [ss_len] at *
  clear hB hs
  go_enter Tryd.func22, Tryd.ntmps22
  go_wp2_with fail
  refine q.mono ?_
  rintro e WX ⟨⟨r, rfl, hr0⟩, hWX⟩
  subst hWX
  clear q
  by_cases h0 : r < 0
  · go_wp2
    go_ret
    exact ⟨⟨-1, rfl, .inl (by omega)⟩, HB.out⟩
  · rcases hr0 with hr0 | ⟨hr1, hr2, hr3⟩
    · exact absurd hr0 h0
    have qh : ∀ W, _ := fun W => sz_head W h r hr hr2 (by omega)
    by_cases hb : r - (h.r.size : Int) < 0
    · simp only [if_pos hb] at qh
      go_wp2_with fail
      refine (qh _).mono ?_
      rintro e w2 ⟨rfl, b2⟩
      have B2 : Below w.heap.size w w2 := HB.out.trans (b2.mono HB.out.size)
      clear qh
      go_wp2
      go_ret
      exact ⟨⟨-1, rfl, .inl (by omega)⟩, B2⟩
    · simp only [if_neg hb] at qh
      have hle : h.r.size ≤ left := by omega
      obtain ⟨m, hm⟩ : ∃ m, r - (h.r.size : Int) = m := ⟨_, rfl⟩
      have hm2 : 0 ≤ m ∧ m ≤ (left : Int) := by omega
      rw [hm] at hb
      simp only [hm] at qh
      clear hm
      go_wp2_with fail
      refine (qh _).mono ?_
      rintro e w2 ⟨rfl, b2⟩
      have B2 : Below w.heap.size w w2 := HB.out.trans (b2.mono HB.out.size)
      clear qh
      go_wp2
      go_ret
      exact ⟨⟨m, rfl, .inr ⟨hr1, hle, hm2.1, hm2.2⟩⟩, B2⟩

set_option maxRecDepth 1000000 in
set_option maxHeartbeats 2000000 in
theorem eq_log (w : World) (h : Hd) (v1 v2 : Value) (l : List ByteArray) (h1 : Sl w v1 (ss l)) (h2 : Sl w v2 (ss l)) (hl : l.length ≤ 1000000000000) :
    Calls Tryd.prog 16 #[.agg #[v1, .int .i64 h.n, .string h.r], .agg #[v2, .int .i64 h.n, .string h.r]] w fun e w' => e = .returned (.bool true) ∧ Below w.heap.size w w' := by
  obtain ⟨W, hW, r0, r1, HB⟩ : ∃ W, Hid ((w.alloc (.cells #[v1, .int .i64 h.n, .string h.r] 26)).alloc (.cells #[v2, .int .i64 h.n, .string h.r] 26) = W) ∧ W.heap[w.heap.size]? = some (.cells #[v1, .int .i64 h.n, .string h.r] 26 (0, 0)) ∧ W.heap[w.heap.size + 1]? = some (.cells #[v2, .int .i64 h.n, .string h.r] 26 (0, 0)) ∧ Hid (Below w.heap.size w W) := ⟨_, rfl, heap_alloc2_old w _ _, heap_alloc2_new w _ _, ((Below.refl _ _).alloc (Nat.le_refl _) _).alloc (by simp) _⟩
  have q := Strs.eqs_true W v1 v2 l (h1.later HB.out) (h2.later HB.out) hl
  obtain ⟨ao, cap, rfl, hcap⟩ := h1.form
  obtain ⟨ao2, cap2, rfl, hcap2⟩ := h2.form
  rw [ss_len] at *
  have qh : ∀ W', _ := fun W' => eq_head W' h
  have q' := q
  rw [← hW.out] at q'
  clear h1 h2 q
  go_enter Tryd.func16, Tryd.ntmps16
  go_wp2_with fail
  refine q'.mono ?_
  rw [hW.out]
  rintro e w1 ⟨rfl, b1, _⟩
  have s0 := rowKeep r0 (b1 _)
  have s1 := rowKeep r1 (b1 _)
  have c1 : w1.cell? ⟨w.heap.size, 1, none⟩ = some (.int .i64 h.n) := row_at s0 1
  have c2 : w1.cell? ⟨w.heap.size, 2, none⟩ = some (.string h.r) := row_at s0 2
  have d1 : w1.cell? ⟨w.heap.size + 1, 1, none⟩ = some (.int .i64 h.n) := row_at s1 1
  have d2 : w1.cell? ⟨w.heap.size + 1, 2, none⟩ = some (.string h.r) := row_at s1 2
  have HB1 : Hid (Below w.heap.size w w1) := HB.out.trans ((b1 _).mono HB.out.size)
  clear q' b1 HB s0 s1 r0 r1
  go_wp2_with fail
  refine (qh _).mono ?_
  rintro e w2 ⟨rfl, b2⟩
  have HB2 : Hid (Below w.heap.size w w2) := HB1.out.trans (b2.mono HB1.out.size)
  clear qh b2 HB1
  go_wp2
  go_ret
  exact ⟨rfl, HB2.out⟩

set_option maxRecDepth 1000000 in
set_option maxHeartbeats 2000000 in
theorem mark_log (w : World) (n : Hd) (v : Value) (lo hi : Nat) (hs : List ByteArray) (k0 : Nat) (h : Own w lo hi 9 v (ss hs)) (hhi : hi ≤ w.heap.size) (hx : hs.length ≤ 1000000000) (hk1 : 1 ≤ k0) (hk0 : k0 ≤ 1000000000) :
    Calls Tryd.prog 18 #[.agg #[v, .int .i64 n.n, .string n.r], .int .i64 (k0 : Int)] w fun e w' => e = .returned (.int .i64 ((k0 + hs.length : Nat) : Int)) ∧ Own w' lo hi 9 v (ss (Strs.mts k0 hs.length)) ∧ Apart lo hi w w' := by
  have hb : Below w.heap.size w (w.alloc (.cells #[v, .int .i64 n.n, .string n.r] 26)) := (Below.refl _ _).alloc (Nat.le_refl _) _
  have q := Strs.marks_any (w.alloc (.cells #[v, .int .i64 n.n, .string n.r] 26)) v lo hi hs k0 (h.later hb hhi) (Nat.le_trans hhi hb.size) (by omega) hk1 (by omega)
  have HA : Hid (Apart lo hi w (w.alloc (.cells #[v, .int .i64 n.n, .string n.r] 26))) := (Apart.refl lo hi w).grow hb
  obtain ⟨ao, L, cap, rfl, _, _⟩ := h.form
  obtain ⟨m, hm⟩ : ∃ m : Int, ((k0 + hs.length : Nat) : Int) = m := ⟨_, rfl⟩
  rw [hm] at q ⊢
  clear h hb hm
  go_enter Tryd.func18, Tryd.ntmps18
  go_wp2_with fail
  refine q.mono ?_
  rintro e w1 ⟨rfl, o1, a1⟩
  have HO : Hid _ := o1
  have HA2 : Hid (Apart lo hi w w1) := HA.out.trans a1
  clear q o1 a1 HA
  go_wp2
  go_ret
  exact ⟨rfl, HO.out, HA2.out⟩

set_option maxRecDepth 1000000 in
set_option maxHeartbeats 2000000 in
theorem held_log (w : World) (n : Hd) (v : Value) (m k0 : Nat) (h : Sl w v (ss (Strs.mts k0 m))) (hx : m ≤ 1000000000) (hk1 : 1 ≤ k0) (hk0 : k0 ≤ 1000000000) :
    Calls Tryd.prog 20 #[.agg #[v, .int .i64 n.n, .string n.r], .int .i64 (k0 : Int)] w fun e w' => e = .returned (.int .i64 ((k0 + m : Nat) : Int)) ∧ Below w.heap.size w w' := by
  have HB : Hid (Below w.heap.size w (w.alloc (.cells #[v, .int .i64 n.n, .string n.r] 26))) := (Below.refl _ _).alloc (Nat.le_refl _) _
  have q := Strs.helds_any (w.alloc (.cells #[v, .int .i64 n.n, .string n.r] 26)) v m k0 (h.later HB.out) (by omega) hk1 (by omega)
  obtain ⟨ao, cap, rfl, _⟩ := h.form
  obtain ⟨r, hr⟩ : ∃ r : Int, ((k0 + m : Nat) : Int) = r := ⟨_, rfl⟩
  have hr0 : ¬ r < 0 := by omega
  rw [hr] at q ⊢
  clear hr
  go_enter Tryd.func20, Tryd.ntmps20
  go_wp2_with fail
  refine q.mono ?_
  rintro e w1 ⟨rfl, b1⟩
  have HB1 : Hid (Below w.heap.size w w1) := HB.out.trans (b1.mono HB.out.size)
  clear q b1 HB
  go_wp2
  go_ret
  exact ⟨rfl, HB1.out⟩

/-- marks from k on, as heads -/
def mh (k : Nat) : Hd := ⟨(k : Int), Strs.mt (k + 1)⟩
def mhs (k n : Nat) : List Hd := (List.range n).map fun i => mh (k + 2 * i)
theorem mhs_len (k n : Nat) : (mhs k n).length = n := by simp [mhs]
theorem mhs_get (k n j : Nat) (h : j < n) : (mhs k n)[j]? = some (mh (k + 2 * j)) := by simp [mhs, h]
theorem own_keepH {n m cap lo g : Nat} {e : TypeId} {w w' : World} {cs : List Value} (h : w.ownsRow lo e n (.slice (some ⟨g, 0, none⟩) m cap) m cs) (hk : w'.heap[g]? = w.heap[g]?) : w'.ownsRow lo e n (.slice (some ⟨g, 0, none⟩) m cap) m cs := by
  refine ⟨h.1, ?_⟩
  rcases h.2 with ⟨h', _⟩ | ⟨g', cap', cur, h', hq, hh, r⟩
  · simp at h'
  · simp only [Value.slice.injEq, Option.some.injEq, Addr.mk.injEq, and_true, true_and] at h'
    obtain ⟨rfl, rfl⟩ := h'
    exact .inr ⟨g, cap, cur, rfl, hq, by rw [hk]; exact hh, r⟩

end Go.Proofs.YtfpaichdkddglabDoor.Lg

/- Chapter 12: the laws' own helpers over stores. -/
namespace Go.Proofs.YtfpaichdkddglabDoor.Sr
open Go.RowKit Go.Proofs.YtfpaichdkddglabDoor.Mem Go.Proofs.YtfpaichdkddglabDoor.Laws Go.Proofs.YtfpaichdkddglabDoor.Bytes Go.Proofs.YtfpaichdkddglabDoor.Sha Go.Proofs.YtfpaichdkddglabDoor.Tr Go.Proofs.YtfpaichdkddglabDoor.He Go.Proofs.YtfpaichdkddglabDoor.Lg
set_option linter.unusedVariables false
set_option linter.unusedSimpArgs false

/-- what is owned lies in a range of its own -/
theorem pairN {w : World} {lo hi : Nat} {v vb : Value} {cs ds : List Value} (h : Own w lo hi 9 v cs) (k : Own w lo hi 5 vb ds) (hh : lo ≤ hi) : ∃ l1 h1 l2 h2, lo ≤ l1 ∧ l1 ≤ h1 ∧ h1 ≤ hi ∧ lo ≤ l2 ∧ l2 ≤ h2 ∧ h2 ≤ hi ∧ (h1 ≤ l2 ∨ h2 ≤ l1) ∧ Own w l1 h1 9 v cs ∧ Own w l2 h2 5 vb ds := by
  have one : ∀ (e : TypeId) (u : Value) (es : List Value), Own w lo hi e u es → ∃ l1 h1, lo ≤ l1 ∧ l1 ≤ h1 ∧ h1 ≤ hi ∧ Own w l1 h1 e u es ∧ (l1 = h1 ∧ l1 = lo ∨ h1 = l1 + 1 ∧ u.ownBlock = some l1) := by
    intro e u es ho
    obtain ⟨⟨h1, h2⟩, h3⟩ := ho
    rcases h2 with ⟨rfl, h0⟩ | ⟨g, cap, cur, rfl, hb, hg, q⟩
    · exact ⟨lo, lo, Nat.le_refl _, Nat.le_refl _, hh, ⟨⟨h1, Or.inl ⟨rfl, h0⟩⟩, fun g hg => by simp [Value.ownBlock] at hg⟩, Or.inl ⟨rfl, rfl⟩⟩
    · have hl := h3 g rfl
      exact ⟨g, g + 1, hb, by omega, hl, ⟨⟨h1, Or.inr ⟨g, cap, cur, rfl, Nat.le_refl _, hg, q⟩⟩, fun g' hg' => by simp [Value.ownBlock] at hg'; omega⟩, Or.inr ⟨rfl, rfl⟩⟩
  obtain ⟨l1, h1, a1, a2, a3, a4, a5⟩ := one 9 v cs h
  obtain ⟨l2, h2, b1, b2, b3, b4, b5⟩ := one 5 vb ds k
  refine ⟨l1, h1, l2, h2, a1, a2, a3, b1, b2, b3, ?_, a4, b4⟩
  rcases a5 with a5 | ⟨a5, a6⟩
  · omega
  · rcases b5 with b5 | ⟨b5, b6⟩
    · omega
    · have hne := Own.neOwn h k (by decide) l2 b6
      have : l1 ≠ l2 := fun e => hne (by rw [a6, e])
      omega
/-- only two ranges turned -/
def Apart2 (l1 h1 l2 h2 : Nat) (w w' : World) : Prop := ∃ m, Apart l1 h1 w m ∧ Apart l2 h2 m w'
theorem Apart2.size {l1 h1 l2 h2 : Nat} {w w' : World} (h : Apart2 l1 h1 l2 h2 w w') : w.heap.size ≤ w'.heap.size := by
  obtain ⟨m, a, b⟩ := h
  exact Nat.le_trans a.size b.size
theorem Apart2.block {l1 h1 l2 h2 : Nat} {w w' : World} (h : Apart2 l1 h1 l2 h2 w w') (k : Nat) (hk : k < w.heap.size) (d1 : k < l1 ∨ h1 ≤ k) (d2 : k < l2 ∨ h2 ≤ k) : w'.heap[k]? = w.heap[k]? := by
  obtain ⟨m, a, b⟩ := h
  rw [b.block k (Nat.lt_of_lt_of_le hk a.size) (by omega), a.block k hk (by omega)]
theorem Apart2.below {l1 h1 l2 h2 B : Nat} {w w' : World} (h : Apart2 l1 h1 l2 h2 w w') (d1 : B ≤ l1) (d2 : B ≤ l2) (hB : B ≤ w.heap.size) : Below B w w' := by
  obtain ⟨m, a, b⟩ := h
  exact (a.below d1 hB).trans (b.below d2 (Nat.le_trans hB a.size))
theorem Own.apart2 {l1 h1 l2 h2 lo hi : Nat} {w w' : World} {e : TypeId} {v : Value} {cs : List Value} (h : Own w lo hi e v cs) (p : Apart2 l1 h1 l2 h2 w w') (d1 : hi ≤ l1 ∨ h1 ≤ lo) (d2 : hi ≤ l2 ∨ h2 ≤ lo) (hs : hi ≤ w.heap.size) : Own w' lo hi e v cs := by
  obtain ⟨m, a, b⟩ := p
  exact Own.apart (Own.apart h a d1 hs) b d2 (Nat.le_trans hs a.size)

set_option maxRecDepth 1000000 in
set_option maxHeartbeats 4000000 in
theorem to_store (w : World) (v vb : Value) (l : List ByteArray) (h : Hd) (b : List Int) (s : Int) (hs : Sl w v (ss l)) (hb : Sl w vb (bs b)) (hl : l.length ≤ 1000000000) (hbl : b.length ≤ 1000000000) :
    Calls Tryd.prog 12 #[.agg #[v, .int .i64 h.n, .string h.r, vb, .int .i64 s]] w fun e w' => ∃ v' vb', e = .returned (.agg #[v', .int .i64 h.n, .string h.r, vb', .int .i64 s]) ∧ Own w' w.heap.size w'.heap.size 9 v' (ss l) ∧ Own w' w.heap.size w'.heap.size 5 vb' (bs b) ∧ Below w.heap.size w w' := by
  have HS : Hid (Sl w v (ss l)) := hs
  have HSB : Hid (Sl w vb (bs b)) := hb
  obtain ⟨ao0, cap0, rfl, hc0⟩ := hs.form
  obtain ⟨ao1, cap1, rfl, hc1⟩ := hb.form
  simp only [ss_len, bs_len] at *
  clear hs hb
  have B0 : Hid (Below w.heap.size w w) := Below.refl _ _
  obtain ⟨W1, HW1, b1, y1, hS1, r_a1, r_res1, r_out1⟩ : ∃ X, Hid ((((w.alloc (.cells #[.slice ao0 l.length cap0, .int .i64 h.n, .string h.r, .slice ao1 b.length cap1, .int .i64 s] 38)).alloc (.cells #[.slice none 0 0, .int .i64 0, .string ⟨#[]⟩, .slice none 0 0, .int .i64 0] 29)).alloc (.cells #[.slice none 0 0, .int .i64 0, .string ⟨#[]⟩, .slice none 0 0, .int .i64 0] 29)) = X) ∧ Below w.heap.size w X ∧ w.heap.size + 3 ≤ X.heap.size ∧ Hid (X.heap.size = w.heap.size + 1 + 1 + 1) ∧ Hid (X.heap[w.heap.size]? = some (.cells #[.slice ao0 l.length cap0, .int .i64 h.n, .string h.r, .slice ao1 b.length cap1, .int .i64 s] 38 (0, 0))) ∧ Hid (X.heap[w.heap.size + 1]? = some (.cells #[.slice none 0 0, .int .i64 0, .string ⟨#[]⟩, .slice none 0 0, .int .i64 0] 29 (0, 0))) ∧ Hid (X.heap[w.heap.size + 1 + 1]? = some (.cells #[.slice none 0 0, .int .i64 0, .string ⟨#[]⟩, .slice none 0 0, .int .i64 0] 29 (0, 0))) := ⟨_, rfl, ((((Below.refl _ _).alloc (Nat.le_refl _) _).alloc (by simp) _).alloc (by simp; omega) _), by simp, by show _ = _; simp, (by show _ = _; exact alloc_nth3_0 w _ _ _), (by show _ = _; exact alloc_nth3_1 w _ _ _), (by show _ = _; exact alloc_nth3_2 w _ _ _)⟩
  have z1 : w.heap.size ≤ W1.heap.size := b1.size
  have B1 : Hid (Below w.heap.size w W1) := B0.out.trans (b1.mono B0.out.size)
  have c_a1_0 : W1.cell? ⟨w.heap.size, 0, none⟩ = some (.slice ao0 l.length cap0) := row_at r_a1.out 0
  have c_a1_1 : W1.cell? ⟨w.heap.size, 1, none⟩ = some (.int .i64 h.n) := row_at r_a1.out 1
  have c_a1_2 : W1.cell? ⟨w.heap.size, 2, none⟩ = some (.string h.r) := row_at r_a1.out 2
  have c_a1_3 : W1.cell? ⟨w.heap.size, 3, none⟩ = some (.slice ao1 b.length cap1) := row_at r_a1.out 3
  have c_a1_4 : W1.cell? ⟨w.heap.size, 4, none⟩ = some (.int .i64 s) := row_at r_a1.out 4
  have c_res1_0 : W1.cell? ⟨w.heap.size + 1, 0, none⟩ = some (.slice none 0 0) := row_at r_res1.out 0
  have c_res1_1 : W1.cell? ⟨w.heap.size + 1, 1, none⟩ = some (.int .i64 0) := row_at r_res1.out 1
  have c_res1_2 : W1.cell? ⟨w.heap.size + 1, 2, none⟩ = some (.string ⟨#[]⟩) := row_at r_res1.out 2
  have c_res1_3 : W1.cell? ⟨w.heap.size + 1, 3, none⟩ = some (.slice none 0 0) := row_at r_res1.out 3
  have c_res1_4 : W1.cell? ⟨w.heap.size + 1, 4, none⟩ = some (.int .i64 0) := row_at r_res1.out 4
  have c_out1_0 : W1.cell? ⟨w.heap.size + 1 + 1, 0, none⟩ = some (.slice none 0 0) := row_at r_out1.out 0
  have c_out1_1 : W1.cell? ⟨w.heap.size + 1 + 1, 1, none⟩ = some (.int .i64 0) := row_at r_out1.out 1
  have c_out1_2 : W1.cell? ⟨w.heap.size + 1 + 1, 2, none⟩ = some (.string ⟨#[]⟩) := row_at r_out1.out 2
  have c_out1_3 : W1.cell? ⟨w.heap.size + 1 + 1, 3, none⟩ = some (.slice none 0 0) := row_at r_out1.out 3
  have c_out1_4 : W1.cell? ⟨w.heap.size + 1 + 1, 4, none⟩ = some (.int .i64 0) := row_at r_out1.out 4
  have q1 : ∀ W v1, Sl W v1 (ss l) → _ := fun W v1 h1 => to_log W v1 l h h1 (by omega)
  have q2 : ∀ W v1, Sl W v1 (bs b) → _ := fun W v1 h1 => to_any W v1 b h1 (by omega)
  go_enter Tryd.func12, Tryd.ntmps12
  go_wp2_with fail
  rw [HW1.out]
  refine (q1 W1 _ (HS.out.later B1.out)).mono ?_
  rintro e W2 ⟨v_s, rfl, o_s2, b2⟩
  obtain ⟨ao_s, L_s, cap_s, rfl, hL_s, hM_s⟩ := o_s2.form
  have o_s2 : Hid (Own W2 W1.heap.size W2.heap.size 9 (.slice ao_s L_s cap_s) (ss l)) := o_s2
  clear hL_s hM_s
  have z2 : W1.heap.size ≤ W2.heap.size := b2.size
  have B2 : Hid (Below w.heap.size w W2) := B1.out.trans (b2.mono B1.out.size)
  have r_a2 : Hid (W2.heap[w.heap.size]? = some (.cells #[.slice ao0 l.length cap0, .int .i64 h.n, .string h.r, .slice ao1 b.length cap1, .int .i64 s] 38 (0, 0))) := rowKeep r_a1.out b2
  have r_res2 : Hid (W2.heap[w.heap.size + 1]? = some (.cells #[.slice none 0 0, .int .i64 0, .string ⟨#[]⟩, .slice none 0 0, .int .i64 0] 29 (0, 0))) := rowKeep r_res1.out b2
  have r_out2 : Hid (W2.heap[w.heap.size + 1 + 1]? = some (.cells #[.slice none 0 0, .int .i64 0, .string ⟨#[]⟩, .slice none 0 0, .int .i64 0] 29 (0, 0))) := rowKeep r_out1.out b2
  have c_a2_0 : W2.cell? ⟨w.heap.size, 0, none⟩ = some (.slice ao0 l.length cap0) := row_at r_a2.out 0
  have c_a2_1 : W2.cell? ⟨w.heap.size, 1, none⟩ = some (.int .i64 h.n) := row_at r_a2.out 1
  have c_a2_2 : W2.cell? ⟨w.heap.size, 2, none⟩ = some (.string h.r) := row_at r_a2.out 2
  have c_a2_3 : W2.cell? ⟨w.heap.size, 3, none⟩ = some (.slice ao1 b.length cap1) := row_at r_a2.out 3
  have c_a2_4 : W2.cell? ⟨w.heap.size, 4, none⟩ = some (.int .i64 s) := row_at r_a2.out 4
  have c_res2_0 : W2.cell? ⟨w.heap.size + 1, 0, none⟩ = some (.slice none 0 0) := row_at r_res2.out 0
  have c_res2_1 : W2.cell? ⟨w.heap.size + 1, 1, none⟩ = some (.int .i64 0) := row_at r_res2.out 1
  have c_res2_2 : W2.cell? ⟨w.heap.size + 1, 2, none⟩ = some (.string ⟨#[]⟩) := row_at r_res2.out 2
  have c_res2_3 : W2.cell? ⟨w.heap.size + 1, 3, none⟩ = some (.slice none 0 0) := row_at r_res2.out 3
  have c_res2_4 : W2.cell? ⟨w.heap.size + 1, 4, none⟩ = some (.int .i64 0) := row_at r_res2.out 4
  have c_out2_0 : W2.cell? ⟨w.heap.size + 1 + 1, 0, none⟩ = some (.slice none 0 0) := row_at r_out2.out 0
  have c_out2_1 : W2.cell? ⟨w.heap.size + 1 + 1, 1, none⟩ = some (.int .i64 0) := row_at r_out2.out 1
  have c_out2_2 : W2.cell? ⟨w.heap.size + 1 + 1, 2, none⟩ = some (.string ⟨#[]⟩) := row_at r_out2.out 2
  have c_out2_3 : W2.cell? ⟨w.heap.size + 1 + 1, 3, none⟩ = some (.slice none 0 0) := row_at r_out2.out 3
  have c_out2_4 : W2.cell? ⟨w.heap.size + 1 + 1, 4, none⟩ = some (.int .i64 0) := row_at r_out2.out 4
  clear r_a1 c_a1_0 c_a1_1 c_a1_2 c_a1_3 c_a1_4 r_res1 c_res1_0 c_res1_1 c_res1_2 c_res1_3 c_res1_4 r_out1 c_out1_0 c_out1_1 c_out1_2 c_out1_3 c_out1_4
  go_wp2_with (refine wpl_partG rfl 26 _ _ rfl (w.heap.size + 1 + 1) 0 (lc (.slice ao_s L_s cap_s) h) rfl rfl [.slice none 0 0, .int .i64 0, .string ⟨#[]⟩, .slice none 0 0, .int .i64 0] 29 r_out2.out (Nat.le_of_ble_eq_true rfl) (sizeL _ _) (oneL _ rfl) [.slice ao_s L_s cap_s, .int .i64 h.n, .string h.r, .slice none 0 0, .int .i64 0] rfl ?_)
  intro W3 r_out3 g3
  have r_out3 : Hid (W3.heap[w.heap.size + 1 + 1]? = some (.cells #[.slice ao_s L_s cap_s, .int .i64 h.n, .string h.r, .slice none 0 0, .int .i64 0] 29 (0, 0))) := r_out3
  have z3 : W2.heap.size ≤ W3.heap.size := g3.size
  have B3 : Hid (Below w.heap.size w W3) := belowGro B2.out g3 B2.out.size (fun k9 h9 => by injection h9 with h9; have := B2.out.size; omega)
  have r_a3 : Hid (W3.heap[w.heap.size]? = some (.cells #[.slice ao0 l.length cap0, .int .i64 h.n, .string h.r, .slice ao1 b.length cap1, .int .i64 s] 38 (0, 0))) := rowGro r_a2.out g3 (fun h9 => by injection h9 with h9; omega)
  have r_res3 : Hid (W3.heap[w.heap.size + 1]? = some (.cells #[.slice none 0 0, .int .i64 0, .string ⟨#[]⟩, .slice none 0 0, .int .i64 0] 29 (0, 0))) := rowGro r_res2.out g3 (fun h9 => by injection h9 with h9; omega)
  have o_s3 : Hid (Own W3 (W1.heap.size) (W2.heap.size) 9 (.slice ao_s L_s cap_s) (ss l)) := Own.gro o_s2.out g3 (fun k9 h9 e9 => Own.neRow o_s2.out r_out2.out (by decide) (h9.trans e9.symm))
  have c_a3_0 : W3.cell? ⟨w.heap.size, 0, none⟩ = some (.slice ao0 l.length cap0) := row_at r_a3.out 0
  have c_a3_1 : W3.cell? ⟨w.heap.size, 1, none⟩ = some (.int .i64 h.n) := row_at r_a3.out 1
  have c_a3_2 : W3.cell? ⟨w.heap.size, 2, none⟩ = some (.string h.r) := row_at r_a3.out 2
  have c_a3_3 : W3.cell? ⟨w.heap.size, 3, none⟩ = some (.slice ao1 b.length cap1) := row_at r_a3.out 3
  have c_a3_4 : W3.cell? ⟨w.heap.size, 4, none⟩ = some (.int .i64 s) := row_at r_a3.out 4
  have c_res3_0 : W3.cell? ⟨w.heap.size + 1, 0, none⟩ = some (.slice none 0 0) := row_at r_res3.out 0
  have c_res3_1 : W3.cell? ⟨w.heap.size + 1, 1, none⟩ = some (.int .i64 0) := row_at r_res3.out 1
  have c_res3_2 : W3.cell? ⟨w.heap.size + 1, 2, none⟩ = some (.string ⟨#[]⟩) := row_at r_res3.out 2
  have c_res3_3 : W3.cell? ⟨w.heap.size + 1, 3, none⟩ = some (.slice none 0 0) := row_at r_res3.out 3
  have c_res3_4 : W3.cell? ⟨w.heap.size + 1, 4, none⟩ = some (.int .i64 0) := row_at r_res3.out 4
  have c_out3_0 : W3.cell? ⟨w.heap.size + 1 + 1, 0, none⟩ = some (.slice ao_s L_s cap_s) := row_at r_out3.out 0
  have c_out3_1 : W3.cell? ⟨w.heap.size + 1 + 1, 1, none⟩ = some (.int .i64 h.n) := row_at r_out3.out 1
  have c_out3_2 : W3.cell? ⟨w.heap.size + 1 + 1, 2, none⟩ = some (.string h.r) := row_at r_out3.out 2
  have c_out3_3 : W3.cell? ⟨w.heap.size + 1 + 1, 3, none⟩ = some (.slice none 0 0) := row_at r_out3.out 3
  have c_out3_4 : W3.cell? ⟨w.heap.size + 1 + 1, 4, none⟩ = some (.int .i64 0) := row_at r_out3.out 4
  clear r_a2 c_a2_0 c_a2_1 c_a2_2 c_a2_3 c_a2_4 r_res2 c_res2_0 c_res2_1 c_res2_2 c_res2_3 c_res2_4 o_s2
  clear r_out2 c_out2_0 c_out2_1 c_out2_2 c_out2_3 c_out2_4
  clear g3
  go_wp2_with fail
  refine (q2 W3 _ (HSB.out.later B3.out)).mono ?_
  rintro e W4 ⟨v_p, rfl, o_p4, b4⟩
  obtain ⟨ao_p, L_p, cap_p, rfl, hL_p, hM_p⟩ := o_p4.form
  have o_p4 : Hid (Own W4 W3.heap.size W4.heap.size 5 (.slice ao_p L_p cap_p) (bs b)) := o_p4
  clear hL_p hM_p
  have z4 : W3.heap.size ≤ W4.heap.size := b4.size
  have B4 : Hid (Below w.heap.size w W4) := B3.out.trans (b4.mono B3.out.size)
  have r_a4 : Hid (W4.heap[w.heap.size]? = some (.cells #[.slice ao0 l.length cap0, .int .i64 h.n, .string h.r, .slice ao1 b.length cap1, .int .i64 s] 38 (0, 0))) := rowKeep r_a3.out b4
  have r_res4 : Hid (W4.heap[w.heap.size + 1]? = some (.cells #[.slice none 0 0, .int .i64 0, .string ⟨#[]⟩, .slice none 0 0, .int .i64 0] 29 (0, 0))) := rowKeep r_res3.out b4
  have r_out4 : Hid (W4.heap[w.heap.size + 1 + 1]? = some (.cells #[.slice ao_s L_s cap_s, .int .i64 h.n, .string h.r, .slice none 0 0, .int .i64 0] 29 (0, 0))) := rowKeep r_out3.out b4
  have o_s4 : Hid (Own W4 (W1.heap.size) (W2.heap.size) 9 (.slice ao_s L_s cap_s) (ss l)) := Own.later o_s3.out b4 (by omega)
  have c_a4_0 : W4.cell? ⟨w.heap.size, 0, none⟩ = some (.slice ao0 l.length cap0) := row_at r_a4.out 0
  have c_a4_1 : W4.cell? ⟨w.heap.size, 1, none⟩ = some (.int .i64 h.n) := row_at r_a4.out 1
  have c_a4_2 : W4.cell? ⟨w.heap.size, 2, none⟩ = some (.string h.r) := row_at r_a4.out 2
  have c_a4_3 : W4.cell? ⟨w.heap.size, 3, none⟩ = some (.slice ao1 b.length cap1) := row_at r_a4.out 3
  have c_a4_4 : W4.cell? ⟨w.heap.size, 4, none⟩ = some (.int .i64 s) := row_at r_a4.out 4
  have c_res4_0 : W4.cell? ⟨w.heap.size + 1, 0, none⟩ = some (.slice none 0 0) := row_at r_res4.out 0
  have c_res4_1 : W4.cell? ⟨w.heap.size + 1, 1, none⟩ = some (.int .i64 0) := row_at r_res4.out 1
  have c_res4_2 : W4.cell? ⟨w.heap.size + 1, 2, none⟩ = some (.string ⟨#[]⟩) := row_at r_res4.out 2
  have c_res4_3 : W4.cell? ⟨w.heap.size + 1, 3, none⟩ = some (.slice none 0 0) := row_at r_res4.out 3
  have c_res4_4 : W4.cell? ⟨w.heap.size + 1, 4, none⟩ = some (.int .i64 0) := row_at r_res4.out 4
  have c_out4_0 : W4.cell? ⟨w.heap.size + 1 + 1, 0, none⟩ = some (.slice ao_s L_s cap_s) := row_at r_out4.out 0
  have c_out4_1 : W4.cell? ⟨w.heap.size + 1 + 1, 1, none⟩ = some (.int .i64 h.n) := row_at r_out4.out 1
  have c_out4_2 : W4.cell? ⟨w.heap.size + 1 + 1, 2, none⟩ = some (.string h.r) := row_at r_out4.out 2
  have c_out4_3 : W4.cell? ⟨w.heap.size + 1 + 1, 3, none⟩ = some (.slice none 0 0) := row_at r_out4.out 3
  have c_out4_4 : W4.cell? ⟨w.heap.size + 1 + 1, 4, none⟩ = some (.int .i64 0) := row_at r_out4.out 4
  clear r_a3 c_a3_0 c_a3_1 c_a3_2 c_a3_3 c_a3_4 r_res3 c_res3_0 c_res3_1 c_res3_2 c_res3_3 c_res3_4 r_out3 c_out3_0 c_out3_1 c_out3_2 c_out3_3 c_out3_4 o_s3
  go_wp2_with (refine wpl_oneG rfl 27 _ _ rfl (w.heap.size + 1 + 1) 3 (.slice ao_p L_p cap_p) rfl rfl [.slice ao_s L_s cap_s, .int .i64 h.n, .string h.r, .slice none 0 0, .int .i64 0] 29 r_out4.out (Nat.le_of_ble_eq_true rfl) (by kernel_rfl) rfl [.slice ao_s L_s cap_s, .int .i64 h.n, .string h.r, .slice ao_p L_p cap_p, .int .i64 0] rfl ?_)
  intro W5 r_out5 g5
  have r_out5 : Hid (W5.heap[w.heap.size + 1 + 1]? = some (.cells #[.slice ao_s L_s cap_s, .int .i64 h.n, .string h.r, .slice ao_p L_p cap_p, .int .i64 0] 29 (0, 0))) := r_out5
  have z5 : W4.heap.size ≤ W5.heap.size := g5.size
  have B5 : Hid (Below w.heap.size w W5) := belowGro B4.out g5 B4.out.size (fun k9 h9 => by injection h9 with h9; have := B4.out.size; omega)
  have r_a5 : Hid (W5.heap[w.heap.size]? = some (.cells #[.slice ao0 l.length cap0, .int .i64 h.n, .string h.r, .slice ao1 b.length cap1, .int .i64 s] 38 (0, 0))) := rowGro r_a4.out g5 (fun h9 => by injection h9 with h9; omega)
  have r_res5 : Hid (W5.heap[w.heap.size + 1]? = some (.cells #[.slice none 0 0, .int .i64 0, .string ⟨#[]⟩, .slice none 0 0, .int .i64 0] 29 (0, 0))) := rowGro r_res4.out g5 (fun h9 => by injection h9 with h9; omega)
  have o_s5 : Hid (Own W5 (W1.heap.size) (W2.heap.size) 9 (.slice ao_s L_s cap_s) (ss l)) := Own.gro o_s4.out g5 (fun k9 h9 e9 => Own.neRow o_s4.out r_out4.out (by decide) (h9.trans e9.symm))
  have o_p5 : Hid (Own W5 (W3.heap.size) (W4.heap.size) 5 (.slice ao_p L_p cap_p) (bs b)) := Own.gro o_p4.out g5 (fun k9 h9 e9 => Own.neRow o_p4.out r_out4.out (by decide) (h9.trans e9.symm))
  have c_a5_0 : W5.cell? ⟨w.heap.size, 0, none⟩ = some (.slice ao0 l.length cap0) := row_at r_a5.out 0
  have c_a5_1 : W5.cell? ⟨w.heap.size, 1, none⟩ = some (.int .i64 h.n) := row_at r_a5.out 1
  have c_a5_2 : W5.cell? ⟨w.heap.size, 2, none⟩ = some (.string h.r) := row_at r_a5.out 2
  have c_a5_3 : W5.cell? ⟨w.heap.size, 3, none⟩ = some (.slice ao1 b.length cap1) := row_at r_a5.out 3
  have c_a5_4 : W5.cell? ⟨w.heap.size, 4, none⟩ = some (.int .i64 s) := row_at r_a5.out 4
  have c_res5_0 : W5.cell? ⟨w.heap.size + 1, 0, none⟩ = some (.slice none 0 0) := row_at r_res5.out 0
  have c_res5_1 : W5.cell? ⟨w.heap.size + 1, 1, none⟩ = some (.int .i64 0) := row_at r_res5.out 1
  have c_res5_2 : W5.cell? ⟨w.heap.size + 1, 2, none⟩ = some (.string ⟨#[]⟩) := row_at r_res5.out 2
  have c_res5_3 : W5.cell? ⟨w.heap.size + 1, 3, none⟩ = some (.slice none 0 0) := row_at r_res5.out 3
  have c_res5_4 : W5.cell? ⟨w.heap.size + 1, 4, none⟩ = some (.int .i64 0) := row_at r_res5.out 4
  have c_out5_0 : W5.cell? ⟨w.heap.size + 1 + 1, 0, none⟩ = some (.slice ao_s L_s cap_s) := row_at r_out5.out 0
  have c_out5_1 : W5.cell? ⟨w.heap.size + 1 + 1, 1, none⟩ = some (.int .i64 h.n) := row_at r_out5.out 1
  have c_out5_2 : W5.cell? ⟨w.heap.size + 1 + 1, 2, none⟩ = some (.string h.r) := row_at r_out5.out 2
  have c_out5_3 : W5.cell? ⟨w.heap.size + 1 + 1, 3, none⟩ = some (.slice ao_p L_p cap_p) := row_at r_out5.out 3
  have c_out5_4 : W5.cell? ⟨w.heap.size + 1 + 1, 4, none⟩ = some (.int .i64 0) := row_at r_out5.out 4
  clear r_a4 c_a4_0 c_a4_1 c_a4_2 c_a4_3 c_a4_4 r_res4 c_res4_0 c_res4_1 c_res4_2 c_res4_3 c_res4_4 o_s4 o_p4
  clear r_out4 c_out4_0 c_out4_1 c_out4_2 c_out4_3 c_out4_4
  clear g5
  go_wp2_with (refine wpl_oneG rfl 3 _ _ rfl (w.heap.size + 1 + 1) 4 (.int .i64 s) rfl rfl [.slice ao_s L_s cap_s, .int .i64 h.n, .string h.r, .slice ao_p L_p cap_p, .int .i64 0] 29 r_out5.out (Nat.le_of_ble_eq_true rfl) (by kernel_rfl) rfl [.slice ao_s L_s cap_s, .int .i64 h.n, .string h.r, .slice ao_p L_p cap_p, .int .i64 s] rfl ?_)
  intro W6 r_out6 g6
  have r_out6 : Hid (W6.heap[w.heap.size + 1 + 1]? = some (.cells #[.slice ao_s L_s cap_s, .int .i64 h.n, .string h.r, .slice ao_p L_p cap_p, .int .i64 s] 29 (0, 0))) := r_out6
  have z6 : W5.heap.size ≤ W6.heap.size := g6.size
  have B6 : Hid (Below w.heap.size w W6) := belowGro B5.out g6 B5.out.size (fun k9 h9 => by injection h9 with h9; have := B5.out.size; omega)
  have r_a6 : Hid (W6.heap[w.heap.size]? = some (.cells #[.slice ao0 l.length cap0, .int .i64 h.n, .string h.r, .slice ao1 b.length cap1, .int .i64 s] 38 (0, 0))) := rowGro r_a5.out g6 (fun h9 => by injection h9 with h9; omega)
  have r_res6 : Hid (W6.heap[w.heap.size + 1]? = some (.cells #[.slice none 0 0, .int .i64 0, .string ⟨#[]⟩, .slice none 0 0, .int .i64 0] 29 (0, 0))) := rowGro r_res5.out g6 (fun h9 => by injection h9 with h9; omega)
  have o_s6 : Hid (Own W6 (W1.heap.size) (W2.heap.size) 9 (.slice ao_s L_s cap_s) (ss l)) := Own.gro o_s5.out g6 (fun k9 h9 e9 => Own.neRow o_s5.out r_out5.out (by decide) (h9.trans e9.symm))
  have o_p6 : Hid (Own W6 (W3.heap.size) (W4.heap.size) 5 (.slice ao_p L_p cap_p) (bs b)) := Own.gro o_p5.out g6 (fun k9 h9 e9 => Own.neRow o_p5.out r_out5.out (by decide) (h9.trans e9.symm))
  have c_a6_0 : W6.cell? ⟨w.heap.size, 0, none⟩ = some (.slice ao0 l.length cap0) := row_at r_a6.out 0
  have c_a6_1 : W6.cell? ⟨w.heap.size, 1, none⟩ = some (.int .i64 h.n) := row_at r_a6.out 1
  have c_a6_2 : W6.cell? ⟨w.heap.size, 2, none⟩ = some (.string h.r) := row_at r_a6.out 2
  have c_a6_3 : W6.cell? ⟨w.heap.size, 3, none⟩ = some (.slice ao1 b.length cap1) := row_at r_a6.out 3
  have c_a6_4 : W6.cell? ⟨w.heap.size, 4, none⟩ = some (.int .i64 s) := row_at r_a6.out 4
  have c_res6_0 : W6.cell? ⟨w.heap.size + 1, 0, none⟩ = some (.slice none 0 0) := row_at r_res6.out 0
  have c_res6_1 : W6.cell? ⟨w.heap.size + 1, 1, none⟩ = some (.int .i64 0) := row_at r_res6.out 1
  have c_res6_2 : W6.cell? ⟨w.heap.size + 1, 2, none⟩ = some (.string ⟨#[]⟩) := row_at r_res6.out 2
  have c_res6_3 : W6.cell? ⟨w.heap.size + 1, 3, none⟩ = some (.slice none 0 0) := row_at r_res6.out 3
  have c_res6_4 : W6.cell? ⟨w.heap.size + 1, 4, none⟩ = some (.int .i64 0) := row_at r_res6.out 4
  have c_out6_0 : W6.cell? ⟨w.heap.size + 1 + 1, 0, none⟩ = some (.slice ao_s L_s cap_s) := row_at r_out6.out 0
  have c_out6_1 : W6.cell? ⟨w.heap.size + 1 + 1, 1, none⟩ = some (.int .i64 h.n) := row_at r_out6.out 1
  have c_out6_2 : W6.cell? ⟨w.heap.size + 1 + 1, 2, none⟩ = some (.string h.r) := row_at r_out6.out 2
  have c_out6_3 : W6.cell? ⟨w.heap.size + 1 + 1, 3, none⟩ = some (.slice ao_p L_p cap_p) := row_at r_out6.out 3
  have c_out6_4 : W6.cell? ⟨w.heap.size + 1 + 1, 4, none⟩ = some (.int .i64 s) := row_at r_out6.out 4
  clear r_a5 c_a5_0 c_a5_1 c_a5_2 c_a5_3 c_a5_4 r_res5 c_res5_0 c_res5_1 c_res5_2 c_res5_3 c_res5_4 o_s5 o_p5
  clear r_out5 c_out5_0 c_out5_1 c_out5_2 c_out5_3 c_out5_4
  clear g6
  go_wp2_with (first | (refine wpList_load_row rfl 29 _ rfl (w.heap.size + 1 + 1) rfl 29 (sc (.slice ao_s L_s cap_s) h (.slice ao_p L_p cap_p) s) (0, 0) _ r_out6.out Tryd.underlying29 rfl (sizeS _ _ _ _) ?_) | (refine wpList_store_row rfl 29 _ _ rfl (w.heap.size + 1) (sc (.slice ao_s L_s cap_s) h (.slice ao_p L_p cap_p) s) rfl rfl 29 _ r_res6.out (sizeS _ _ _ _) rfl (oneS _ _ rfl rfl) ?_))
  exact bodyPost_ret (v := .agg (sc (.slice ao_s L_s cap_s) h (.slice ao_p L_p cap_p) s)) (results_cell_row rfl _ _ (w.heap.size + 1) 29 _ (0, 0) _ rfl (setRow_heap _ _ _ _ _ (0, 0) r_res6.out) Tryd.underlying29 rfl (sizeS _ _ _ _)) rfl ⟨_, _, rfl, (Own.setRow o_s6.out _ (by omega)).mono (by omega) (by rw [size_setRow]; omega), (Own.setRow o_p6.out _ (by omega)).mono (by omega) (by rw [size_setRow]; omega), below_setRow B6.out (by omega) _⟩

set_option maxRecDepth 1000000 in
theorem sz_bytes (w : World) (ao : Option Addr) (n cap : Nat) (r : Int) (h0 : 0 ≤ r) (h1 : r ≤ 1048576) (hn : n ≤ 9223372036854775807) :
    Calls Tryd.prog 23 #[.slice ao n cap, .int .i64 r] w fun e w' => e = .returned (.int .i64 (if r - (n : Int) < 0 then -1 else r - (n : Int))) ∧ w' = w := by
  have wr : IntKind.i64.wrap (r - (n : Int)) = r - (n : Int) := by rw [IntKind.wrap_i64]; omega
  by_cases hb : r - (n : Int) < 0
  · rw [if_pos hb]
    go_enter Tryd.func23, Tryd.ntmps23
    go_wp2
    go_ret
    exact ⟨rfl, rfl⟩
  · rw [if_neg hb]
    go_enter Tryd.func23, Tryd.ntmps23
    go_wp2
    go_ret
    exact ⟨rfl, rfl⟩

set_option maxRecDepth 1000000 in
set_option maxHeartbeats 4000000 in
theorem sz_store (w : World) (v vb : Value) (l : List ByteArray) (h : Hd) (b : List Int) (s : Int) (hs : Sl w v (ss l)) (hb : Sl w vb (bs b)) (hz : ∀ s ∈ l, s.size ≤ 9223372036854775807) (hl : l.length ≤ 9223372036854775807) (hbl : b.length ≤ 9223372036854775807) (hr : h.r.size ≤ 9223372036854775807) :
    Calls Tryd.prog 10 #[.agg #[v, .int .i64 h.n, .string h.r, vb, .int .i64 s], .int .i64 1048576] w fun e w' => (∃ r : Int, e = .returned (.int .i64 r) ∧ (r < 0 ∨ (l.length + Puts.tot l ≤ 1048576 ∧ h.r.size ≤ 1048576 ∧ b.length ≤ 1048576 ∧ 0 ≤ r ∧ r ≤ 1048576))) ∧ Below w.heap.size w w' := by
  have HS : Hid (Sl w v (ss l)) := hs
  obtain ⟨ao0, cap0, rfl, hc0⟩ := hs.form
  obtain ⟨ao1, cap1, rfl, hc1⟩ := hb.form
  simp only [ss_len, bs_len] at *
  clear hs hb
  have B0 : Hid (Below w.heap.size w w) := Below.refl _ _
  obtain ⟨W1, HW1, b1, y1, hS1, r_a1⟩ : ∃ X, Hid ((w.alloc (.cells #[.slice ao0 l.length cap0, .int .i64 h.n, .string h.r, .slice ao1 b.length cap1, .int .i64 s] 38)) = X) ∧ Below w.heap.size w X ∧ w.heap.size + 1 ≤ X.heap.size ∧ Hid (X.heap.size = w.heap.size + 1) ∧ Hid (X.heap[w.heap.size]? = some (.cells #[.slice ao0 l.length cap0, .int .i64 h.n, .string h.r, .slice ao1 b.length cap1, .int .i64 s] 38 (0, 0))) := ⟨_, rfl, ((Below.refl _ _).alloc (Nat.le_refl _) _), by simp, by show _ = _; simp, (by show _ = _; exact alloc_nth1_0 w _)⟩
  have z1 : w.heap.size ≤ W1.heap.size := b1.size
  have B1 : Hid (Below w.heap.size w W1) := B0.out.trans (b1.mono B0.out.size)
  have c_a1_0 : W1.cell? ⟨w.heap.size, 0, none⟩ = some (.slice ao0 l.length cap0) := row_at r_a1.out 0
  have c_a1_1 : W1.cell? ⟨w.heap.size, 1, none⟩ = some (.int .i64 h.n) := row_at r_a1.out 1
  have c_a1_2 : W1.cell? ⟨w.heap.size, 2, none⟩ = some (.string h.r) := row_at r_a1.out 2
  have c_a1_3 : W1.cell? ⟨w.heap.size, 3, none⟩ = some (.slice ao1 b.length cap1) := row_at r_a1.out 3
  have c_a1_4 : W1.cell? ⟨w.heap.size, 4, none⟩ = some (.int .i64 s) := row_at r_a1.out 4
  have q1 := sz_log W1 _ l h 1048576 (HS.out.later B1.out) hz hl hr (Nat.le_refl _)
  clear hz
  go_enter Tryd.func10, Tryd.ntmps10
  go_wp2_with fail
  rw [HW1.out]
  refine q1.mono ?_
  rintro e W2 ⟨⟨r, rfl, hr0⟩, b2⟩
  clear q1
  have z2 : W1.heap.size ≤ W2.heap.size := b2.size
  have B2 : Hid (Below w.heap.size w W2) := B1.out.trans (b2.mono B1.out.size)
  have r_a2 : Hid (W2.heap[w.heap.size]? = some (.cells #[.slice ao0 l.length cap0, .int .i64 h.n, .string h.r, .slice ao1 b.length cap1, .int .i64 s] 38 (0, 0))) := rowKeep r_a1.out b2
  have c_a2_0 : W2.cell? ⟨w.heap.size, 0, none⟩ = some (.slice ao0 l.length cap0) := row_at r_a2.out 0
  have c_a2_1 : W2.cell? ⟨w.heap.size, 1, none⟩ = some (.int .i64 h.n) := row_at r_a2.out 1
  have c_a2_2 : W2.cell? ⟨w.heap.size, 2, none⟩ = some (.string h.r) := row_at r_a2.out 2
  have c_a2_3 : W2.cell? ⟨w.heap.size, 3, none⟩ = some (.slice ao1 b.length cap1) := row_at r_a2.out 3
  have c_a2_4 : W2.cell? ⟨w.heap.size, 4, none⟩ = some (.int .i64 s) := row_at r_a2.out 4
  clear r_a1 c_a1_0 c_a1_1 c_a1_2 c_a1_3 c_a1_4
  by_cases h0 : r < 0
  · go_wp2
    go_ret
    exact ⟨⟨-1, rfl, .inl (by omega)⟩, B2.out⟩
  · rcases hr0 with hr0 | ⟨hr1, hr2, hr3, hr4⟩
    · exact absurd hr0 h0
    have q2 : ∀ W, _ := fun W => sz_bytes W ao1 b.length cap1 r hr3 (by omega) hbl
    by_cases hb : r - (b.length : Int) < 0
    · simp only [if_pos hb] at q2
      go_wp2_with fail
      refine (q2 W2).mono ?_
      rintro e W_ ⟨rfl, hW_⟩
      have hW_ := hW_.symm
      subst hW_
      go_wp2
      go_ret
      exact ⟨⟨-1, rfl, .inl (by omega)⟩, B2.out⟩
    · simp only [if_neg hb] at q2
      have h5 : b.length ≤ 1048576 := by omega
      obtain ⟨m, hm⟩ : ∃ m, r - (b.length : Int) = m := ⟨_, rfl⟩
      have hm2 : 0 ≤ m ∧ m ≤ 1048576 := by omega
      rw [hm] at hb
      simp only [hm] at q2
      clear hm
      go_wp2_with fail
      refine (q2 W2).mono ?_
      rintro e W_ ⟨rfl, hW_⟩
      have hW_ := hW_.symm
      subst hW_
      go_wp2
      go_ret
      exact ⟨⟨m, rfl, .inr ⟨hr1, hr2, h5, hm2.1, hm2.2⟩⟩, B2.out⟩

set_option maxRecDepth 1000000 in
set_option maxHeartbeats 4000000 in
theorem eq_store (w : World) (v1 v2 b1 b2 : Value) (l : List ByteArray) (h : Hd) (b : List Int) (s : Int) (s1 : Sl w v1 (ss l)) (s2 : Sl w v2 (ss l)) (t1 : Sl w b1 (bs b)) (t2 : Sl w b2 (bs b)) (hl : l.length ≤ 1000000000) (hbl : b.length ≤ 1000000000) :
    Calls Tryd.prog 7 #[.agg #[v1, .int .i64 h.n, .string h.r, b1, .int .i64 s], .agg #[v2, .int .i64 h.n, .string h.r, b2, .int .i64 s]] w fun e w' => e = .returned (.bool true) ∧ Below w.heap.size w w' := by
  have S1 : Hid (Sl w v1 (ss l)) := s1
  have S2 : Hid (Sl w v2 (ss l)) := s2
  have T1 : Hid (Sl w b1 (bs b)) := t1
  have T2 : Hid (Sl w b2 (bs b)) := t2
  obtain ⟨ao0, cap0, rfl, hc0⟩ := s1.form
  obtain ⟨ao1, cap1, rfl, hc1⟩ := t1.form
  obtain ⟨ao2, cap2, rfl, hc2⟩ := s2.form
  obtain ⟨ao3, cap3, rfl, hc3⟩ := t2.form
  simp only [ss_len, bs_len] at *
  have n1 : (s != s) = false := by simp
  have n2 : (s == s) = true := by simp
  clear s1 s2 t1 t2
  have B0 : Hid (Below w.heap.size w w) := Below.refl _ _
  obtain ⟨W1, HW1, b1, y1, hS1, r_a1, r_b1⟩ : ∃ X, Hid (((w.alloc (.cells #[.slice ao0 l.length cap0, .int .i64 h.n, .string h.r, .slice ao1 b.length cap1, .int .i64 s] 29)).alloc (.cells #[.slice ao2 l.length cap2, .int .i64 h.n, .string h.r, .slice ao3 b.length cap3, .int .i64 s] 29)) = X) ∧ Below w.heap.size w X ∧ w.heap.size + 2 ≤ X.heap.size ∧ Hid (X.heap.size = w.heap.size + 1 + 1) ∧ Hid (X.heap[w.heap.size]? = some (.cells #[.slice ao0 l.length cap0, .int .i64 h.n, .string h.r, .slice ao1 b.length cap1, .int .i64 s] 29 (0, 0))) ∧ Hid (X.heap[w.heap.size + 1]? = some (.cells #[.slice ao2 l.length cap2, .int .i64 h.n, .string h.r, .slice ao3 b.length cap3, .int .i64 s] 29 (0, 0))) := ⟨_, rfl, (((Below.refl _ _).alloc (Nat.le_refl _) _).alloc (by simp) _), by simp, by show _ = _; simp, (by show _ = _; exact alloc_nth2_0 w _ _), (by show _ = _; exact alloc_nth2_1 w _ _)⟩
  have z1 : w.heap.size ≤ W1.heap.size := b1.size
  have B1 : Hid (Below w.heap.size w W1) := B0.out.trans (b1.mono B0.out.size)
  have c_a1_0 : W1.cell? ⟨w.heap.size, 0, none⟩ = some (.slice ao0 l.length cap0) := row_at r_a1.out 0
  have c_a1_1 : W1.cell? ⟨w.heap.size, 1, none⟩ = some (.int .i64 h.n) := row_at r_a1.out 1
  have c_a1_2 : W1.cell? ⟨w.heap.size, 2, none⟩ = some (.string h.r) := row_at r_a1.out 2
  have c_a1_3 : W1.cell? ⟨w.heap.size, 3, none⟩ = some (.slice ao1 b.length cap1) := row_at r_a1.out 3
  have c_a1_4 : W1.cell? ⟨w.heap.size, 4, none⟩ = some (.int .i64 s) := row_at r_a1.out 4
  have c_b1_0 : W1.cell? ⟨w.heap.size + 1, 0, none⟩ = some (.slice ao2 l.length cap2) := row_at r_b1.out 0
  have c_b1_1 : W1.cell? ⟨w.heap.size + 1, 1, none⟩ = some (.int .i64 h.n) := row_at r_b1.out 1
  have c_b1_2 : W1.cell? ⟨w.heap.size + 1, 2, none⟩ = some (.string h.r) := row_at r_b1.out 2
  have c_b1_3 : W1.cell? ⟨w.heap.size + 1, 3, none⟩ = some (.slice ao3 b.length cap3) := row_at r_b1.out 3
  have c_b1_4 : W1.cell? ⟨w.heap.size + 1, 4, none⟩ = some (.int .i64 s) := row_at r_b1.out 4
  go_enter Tryd.func7, Tryd.ntmps7
  go_wp2_with fail
  rw [HW1.out]
  refine (eq_log W1 h _ _ l (S1.out.later B1.out) (S2.out.later B1.out) (by omega)).mono ?_
  rintro e W2 ⟨rfl, b2⟩
  have z2 : W1.heap.size ≤ W2.heap.size := b2.size
  have B2 : Hid (Below w.heap.size w W2) := B1.out.trans (b2.mono B1.out.size)
  have r_a2 : Hid (W2.heap[w.heap.size]? = some (.cells #[.slice ao0 l.length cap0, .int .i64 h.n, .string h.r, .slice ao1 b.length cap1, .int .i64 s] 29 (0, 0))) := rowKeep r_a1.out b2
  have r_b2 : Hid (W2.heap[w.heap.size + 1]? = some (.cells #[.slice ao2 l.length cap2, .int .i64 h.n, .string h.r, .slice ao3 b.length cap3, .int .i64 s] 29 (0, 0))) := rowKeep r_b1.out b2
  have c_a2_0 : W2.cell? ⟨w.heap.size, 0, none⟩ = some (.slice ao0 l.length cap0) := row_at r_a2.out 0
  have c_a2_1 : W2.cell? ⟨w.heap.size, 1, none⟩ = some (.int .i64 h.n) := row_at r_a2.out 1
  have c_a2_2 : W2.cell? ⟨w.heap.size, 2, none⟩ = some (.string h.r) := row_at r_a2.out 2
  have c_a2_3 : W2.cell? ⟨w.heap.size, 3, none⟩ = some (.slice ao1 b.length cap1) := row_at r_a2.out 3
  have c_a2_4 : W2.cell? ⟨w.heap.size, 4, none⟩ = some (.int .i64 s) := row_at r_a2.out 4
  have c_b2_0 : W2.cell? ⟨w.heap.size + 1, 0, none⟩ = some (.slice ao2 l.length cap2) := row_at r_b2.out 0
  have c_b2_1 : W2.cell? ⟨w.heap.size + 1, 1, none⟩ = some (.int .i64 h.n) := row_at r_b2.out 1
  have c_b2_2 : W2.cell? ⟨w.heap.size + 1, 2, none⟩ = some (.string h.r) := row_at r_b2.out 2
  have c_b2_3 : W2.cell? ⟨w.heap.size + 1, 3, none⟩ = some (.slice ao3 b.length cap3) := row_at r_b2.out 3
  have c_b2_4 : W2.cell? ⟨w.heap.size + 1, 4, none⟩ = some (.int .i64 s) := row_at r_b2.out 4
  clear r_a1 c_a1_0 c_a1_1 c_a1_2 c_a1_3 c_a1_4 r_b1 c_b1_0 c_b1_1 c_b1_2 c_b1_3 c_b1_4
  go_wp2_with fail
  refine (eq_true W2 _ _ b (T1.out.later B2.out) (T2.out.later B2.out) (by omega)).mono ?_
  rintro e W3 ⟨rfl, h3, _⟩
  have b3 : Below W2.heap.size W2 W3 := h3 _
  clear h3
  have z3 : W2.heap.size ≤ W3.heap.size := b3.size
  have B3 : Hid (Below w.heap.size w W3) := B2.out.trans (b3.mono B2.out.size)
  have r_a3 : Hid (W3.heap[w.heap.size]? = some (.cells #[.slice ao0 l.length cap0, .int .i64 h.n, .string h.r, .slice ao1 b.length cap1, .int .i64 s] 29 (0, 0))) := rowKeep r_a2.out b3
  have r_b3 : Hid (W3.heap[w.heap.size + 1]? = some (.cells #[.slice ao2 l.length cap2, .int .i64 h.n, .string h.r, .slice ao3 b.length cap3, .int .i64 s] 29 (0, 0))) := rowKeep r_b2.out b3
  have c_a3_0 : W3.cell? ⟨w.heap.size, 0, none⟩ = some (.slice ao0 l.length cap0) := row_at r_a3.out 0
  have c_a3_1 : W3.cell? ⟨w.heap.size, 1, none⟩ = some (.int .i64 h.n) := row_at r_a3.out 1
  have c_a3_2 : W3.cell? ⟨w.heap.size, 2, none⟩ = some (.string h.r) := row_at r_a3.out 2
  have c_a3_3 : W3.cell? ⟨w.heap.size, 3, none⟩ = some (.slice ao1 b.length cap1) := row_at r_a3.out 3
  have c_a3_4 : W3.cell? ⟨w.heap.size, 4, none⟩ = some (.int .i64 s) := row_at r_a3.out 4
  have c_b3_0 : W3.cell? ⟨w.heap.size + 1, 0, none⟩ = some (.slice ao2 l.length cap2) := row_at r_b3.out 0
  have c_b3_1 : W3.cell? ⟨w.heap.size + 1, 1, none⟩ = some (.int .i64 h.n) := row_at r_b3.out 1
  have c_b3_2 : W3.cell? ⟨w.heap.size + 1, 2, none⟩ = some (.string h.r) := row_at r_b3.out 2
  have c_b3_3 : W3.cell? ⟨w.heap.size + 1, 3, none⟩ = some (.slice ao3 b.length cap3) := row_at r_b3.out 3
  have c_b3_4 : W3.cell? ⟨w.heap.size + 1, 4, none⟩ = some (.int .i64 s) := row_at r_b3.out 4
  clear r_a2 c_a2_0 c_a2_1 c_a2_2 c_a2_3 c_a2_4 r_b2 c_b2_0 c_b2_1 c_b2_2 c_b2_3 c_b2_4
  go_wp2
  go_ret
  exact ⟨rfl, B3.out⟩

set_option maxRecDepth 1000000 in
set_option maxHeartbeats 4000000 in
theorem mark_store (w : World) (n : Hd) (v vb : Value) (s : Int) (l1 h1 l2 h2 : Nat) (l : List ByteArray) (b : List Int) (k0 : Nat) (h9 : Own w l1 h1 9 v (ss l)) (h5 : Own w l2 h2 5 vb (bs b)) (d : h1 ≤ l2 ∨ h2 ≤ l1) (e1 : h1 ≤ w.heap.size) (e2 : h2 ≤ w.heap.size) (hx : l.length ≤ 100000000) (hb : b.length ≤ 100000000) (hk1 : 1 ≤ k0) (hk0 : k0 ≤ 100000000) :
    Calls Tryd.prog 8 #[.agg #[v, .int .i64 n.n, .string n.r, vb, .int .i64 s], .int .i64 (k0 : Int)] w fun e w' => e = .returned (.int .i64 ((k0 + l.length + b.length : Nat) : Int)) ∧ Own w' l1 h1 9 v (ss (Strs.mts k0 l.length)) ∧ Own w' l2 h2 5 vb (bs (marks (k0 + l.length) b.length)) ∧ Apart2 l1 h1 l2 h2 w w' := by
  have bA : Below w.heap.size w (w.alloc (.cells #[v, .int .i64 n.n, .string n.r, vb, .int .i64 s] 29)) := (Below.refl _ _).alloc (Nat.le_refl _) _
  obtain ⟨ao0, L0, cap0, rfl, _, _⟩ := h9.form
  obtain ⟨ao1, L1, cap1, rfl, _, _⟩ := h5.form
  obtain ⟨W1, HW1, b1, y1, r1⟩ : ∃ X, Hid (w.alloc (.cells #[.slice ao0 L0 cap0, .int .i64 n.n, .string n.r, .slice ao1 L1 cap1, .int .i64 s] 29) = X) ∧ Below w.heap.size w X ∧ w.heap.size + 1 ≤ X.heap.size ∧ Hid (X.heap[w.heap.size]? = some (.cells #[.slice ao0 L0 cap0, .int .i64 n.n, .string n.r, .slice ao1 L1 cap1, .int .i64 s] 29 (0, 0))) := ⟨_, rfl, bA, by simp, heap_alloc_new _ _⟩
  clear bA
  have q1 := mark_log W1 n _ l1 h1 l k0 (h9.later b1 e1) (by omega) (by omega) hk1 (by omega)
  have A1 : Hid (Apart l1 h1 w W1) := (Apart.refl l1 h1 w).grow b1
  have o51 : Hid (Own W1 l2 h2 5 (.slice ao1 L1 cap1) (bs b)) := h5.later b1 e2
  obtain ⟨m1, hm1⟩ : ∃ m : Int, ((k0 + l.length : Nat) : Int) = m := ⟨_, rfl⟩
  have q2 : ∀ W, Own W l2 h2 5 (.slice ao1 L1 cap1) (bs b) → _ := fun W ho => mark_bytes W _ l2 h2 b (k0 + l.length) ho (by omega) (by omega)
  obtain ⟨m2, hm2⟩ : ∃ m : Int, ((k0 + l.length + b.length : Nat) : Int) = m := ⟨_, rfl⟩
  simp only [hm1, hm2] at q2
  rw [hm1] at q1
  rw [hm2]
  clear hm1 hm2 h9 h5
  go_enter Tryd.func8, Tryd.ntmps8
  go_wp2_with fail
  rw [HW1.out]
  refine q1.mono ?_
  rintro e W2 ⟨rfl, o92, p2⟩
  have r2 : W2.heap[w.heap.size]? = some (.cells #[.slice ao0 L0 cap0, .int .i64 n.n, .string n.r, .slice ao1 L1 cap1, .int .i64 s] 29 (0, 0)) := (p2.block w.heap.size (by omega) (by omega)).trans r1.out
  have c3 : W2.cell? ⟨w.heap.size, 3, none⟩ = some (.slice ao1 L1 cap1) := row_at r2 3
  have o52 := Own.apart o51.out p2 (by omega) (by omega)
  have A2 : Hid (Apart l1 h1 w W2) := A1.out.trans p2
  have O92 : Hid _ := o92
  have O52 : Hid _ := o52
  have z2 := p2.size
  clear q1 r1 r2 o51 A1 o92 o52 p2
  go_wp2_with fail
  refine (q2 _ O52.out).mono ?_
  rintro e W3 ⟨rfl, o53, p3⟩
  have o93 := Own.apart O92.out p3 (by omega) (by omega)
  have H9 : Hid _ := o93
  have H5 : Hid _ := o53
  have A3 : Hid (Apart2 l1 h1 l2 h2 w W3) := ⟨W2, A2.out, p3⟩
  clear q2 o93 o53 p3 c3
  go_wp2
  go_ret
  exact ⟨rfl, H9.out, H5.out, A3.out⟩

set_option maxRecDepth 1000000 in
set_option maxHeartbeats 4000000 in
theorem held_store (w : World) (n : Hd) (v vb : Value) (s : Int) (m j k0 : Nat) (h9 : Sl w v (ss (Strs.mts k0 m))) (h5 : Sl w vb (bs (marks (k0 + m) j))) (hx : m ≤ 100000000) (hb : j ≤ 100000000) (hk1 : 1 ≤ k0) (hk0 : k0 ≤ 100000000) :
    Calls Tryd.prog 9 #[.agg #[v, .int .i64 n.n, .string n.r, vb, .int .i64 s], .int .i64 (k0 : Int)] w fun e w' => e = .returned (.int .i64 ((k0 + m + j : Nat) : Int)) ∧ Below w.heap.size w w' := by
  have S1 : Hid (Sl w v (ss (Strs.mts k0 m))) := h9
  have T1 : Hid (Sl w vb (bs (marks (k0 + m) j))) := h5
  obtain ⟨ao0, cap0, rfl, hc0⟩ := h9.form
  obtain ⟨ao1, cap1, rfl, hc1⟩ := h5.form
  simp only [ss_len, bs_len, Strs.mts_len, marks_len] at *
  have q1 : ∀ W v1, Sl W v1 (ss (Strs.mts k0 m)) → _ := fun W v1 h1 => held_log W n v1 m k0 h1 (by omega) hk1 (by omega)
  obtain ⟨m1, hm1⟩ : ∃ m9 : Int, ((k0 + m : Nat) : Int) = m9 := ⟨_, rfl⟩
  have q2 : ∀ W v1, Sl W v1 (bs (marks (k0 + m) j)) → _ := fun W v1 h1 => held_any W v1 j (k0 + m) h1 (by omega) (by omega)
  obtain ⟨m2, hm2⟩ : ∃ m9 : Int, ((k0 + m + j : Nat) : Int) = m9 := ⟨_, rfl⟩
  have d1 : ¬ m1 < 0 := by omega
  have d2 : ¬ m2 < 0 := by omega
  simp only [hm1, hm2] at q2
  simp only [hm1] at q1
  rw [hm2]
  clear hm1 hm2 h9 h5
  have B0 : Hid (Below w.heap.size w w) := Below.refl _ _
  obtain ⟨W1, HW1, b1, y1, hS1, r_a1⟩ : ∃ X, Hid ((w.alloc (.cells #[.slice ao0 m cap0, .int .i64 n.n, .string n.r, .slice ao1 j cap1, .int .i64 s] 29)) = X) ∧ Below w.heap.size w X ∧ w.heap.size + 1 ≤ X.heap.size ∧ Hid (X.heap.size = w.heap.size + 1) ∧ Hid (X.heap[w.heap.size]? = some (.cells #[.slice ao0 m cap0, .int .i64 n.n, .string n.r, .slice ao1 j cap1, .int .i64 s] 29 (0, 0))) := ⟨_, rfl, ((Below.refl _ _).alloc (Nat.le_refl _) _), by simp, by show _ = _; simp, (by show _ = _; exact alloc_nth1_0 w _)⟩
  have z1 : w.heap.size ≤ W1.heap.size := b1.size
  have B1 : Hid (Below w.heap.size w W1) := B0.out.trans (b1.mono B0.out.size)
  have c_a1_0 : W1.cell? ⟨w.heap.size, 0, none⟩ = some (.slice ao0 m cap0) := row_at r_a1.out 0
  have c_a1_1 : W1.cell? ⟨w.heap.size, 1, none⟩ = some (.int .i64 n.n) := row_at r_a1.out 1
  have c_a1_2 : W1.cell? ⟨w.heap.size, 2, none⟩ = some (.string n.r) := row_at r_a1.out 2
  have c_a1_3 : W1.cell? ⟨w.heap.size, 3, none⟩ = some (.slice ao1 j cap1) := row_at r_a1.out 3
  have c_a1_4 : W1.cell? ⟨w.heap.size, 4, none⟩ = some (.int .i64 s) := row_at r_a1.out 4
  go_enter Tryd.func9, Tryd.ntmps9
  go_wp2_with fail
  rw [HW1.out]
  refine (q1 W1 _ (S1.out.later B1.out)).mono ?_
  rintro e W2 ⟨rfl, b2⟩
  have z2 : W1.heap.size ≤ W2.heap.size := b2.size
  have B2 : Hid (Below w.heap.size w W2) := B1.out.trans (b2.mono B1.out.size)
  have r_a2 : Hid (W2.heap[w.heap.size]? = some (.cells #[.slice ao0 m cap0, .int .i64 n.n, .string n.r, .slice ao1 j cap1, .int .i64 s] 29 (0, 0))) := rowKeep r_a1.out b2
  have c_a2_0 : W2.cell? ⟨w.heap.size, 0, none⟩ = some (.slice ao0 m cap0) := row_at r_a2.out 0
  have c_a2_1 : W2.cell? ⟨w.heap.size, 1, none⟩ = some (.int .i64 n.n) := row_at r_a2.out 1
  have c_a2_2 : W2.cell? ⟨w.heap.size, 2, none⟩ = some (.string n.r) := row_at r_a2.out 2
  have c_a2_3 : W2.cell? ⟨w.heap.size, 3, none⟩ = some (.slice ao1 j cap1) := row_at r_a2.out 3
  have c_a2_4 : W2.cell? ⟨w.heap.size, 4, none⟩ = some (.int .i64 s) := row_at r_a2.out 4
  clear r_a1 c_a1_0 c_a1_1 c_a1_2 c_a1_3 c_a1_4
  go_wp2_with fail
  refine (q2 W2 _ (T1.out.later B2.out)).mono ?_
  rintro e W_ ⟨rfl, hW_⟩
  have hW_ := hW_.symm
  subst hW_
  go_wp2
  go_ret
  exact ⟨rfl, B2.out⟩

end Go.Proofs.YtfpaichdkddglabDoor.Sr
