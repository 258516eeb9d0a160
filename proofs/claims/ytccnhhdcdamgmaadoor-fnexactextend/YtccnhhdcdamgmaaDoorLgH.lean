/- Chapter 11, the laws' helpers: a log's size, its turning, whether two are the same, marks. -/
import Derived.Test.YtccnhhdcdamgmaaDoorLg1
import Derived.Test.YtccnhhdcdamgmaaDoorHe2
import Derived.Test.YtccnhhdcdamgmaaDoorSz2
import Derived.Test.YtccnhhdcdamgmaaDoorStrs
namespace Go.Proofs.YtccnhhdcdamgmaaDoor.Lg
open Go.RowKit Go.Proofs.YtccnhhdcdamgmaaDoor.Mem Go.Proofs.YtccnhhdcdamgmaaDoor.Laws Go.Proofs.YtccnhhdcdamgmaaDoor.Bytes Go.Proofs.YtccnhhdcdamgmaaDoor.Sha Go.Proofs.YtccnhhdcdamgmaaDoor.Tr Go.Proofs.YtccnhhdcdamgmaaDoor.He
set_option linter.unusedVariables false
set_option linter.unusedSimpArgs false

theorem alloc3_new (w : World) (A B C : Obj) : (((w.alloc A).alloc B).alloc C).heap[w.heap.size + 1 + 1]? = some C := by
  have h := heap_alloc_new ((w.alloc A).alloc B) C
  simpa using h

set_option maxRecDepth 1000000 in
set_option maxHeartbeats 2000000 in
theorem to_log (w : World) (v : Value) (l : List ByteArray) (h : Hd) (hs : Sl w v (ss l)) (hl : l.length ≤ 1000000000000) :
    Calls Tryd.prog 33 #[.agg #[v, .int .i64 h.n, .string h.r]] w fun e w' => ∃ v', e = .returned (.agg #[v', .int .i64 h.n, .string h.r]) ∧ Own w' w.heap.size w'.heap.size 9 v' (ss l) ∧ Below w.heap.size w w' := by
  obtain ⟨W, hW⟩ : ∃ W, W = ((w.alloc (.cells #[v, .int .i64 h.n, .string h.r] 50)).alloc (.cells #[.slice none 0 0, .int .i64 0, .string ⟨#[]⟩] 28)).alloc (.cells #[.slice none 0 0, .int .i64 0, .string ⟨#[]⟩] 28) := ⟨_, rfl⟩
  have z0 : W.heap.size = w.heap.size + 3 := by rw [hW]; simp
  have r0 : W.heap[w.heap.size]? = some (.cells #[v, .int .i64 h.n, .string h.r] 50 (0, 0)) := by rw [hW, heap_alloc_old _ _ (by simp; omega)]; exact heap_alloc2_old w _ _
  have r1 : W.heap[w.heap.size + 1]? = some (.cells (lc (.slice none 0 0) hd0) 28 (0, 0)) := by rw [hW, heap_alloc_old _ _ (by simp)]; exact heap_alloc2_new w _ _
  have r2 : W.heap[w.heap.size + 1 + 1]? = some (.cells (lc (.slice none 0 0) hd0) 28 (0, 0)) := by rw [hW]; exact alloc3_new w _ _ _
  have hB : Below w.heap.size w W := by rw [hW]; exact (((Below.refl _ _).alloc (Nat.le_refl _) _).alloc (by simp) _).alloc (by simp; omega) _
  have q := Strs.to_s W v l (hs.later hB) hl
  have HR0 : Hid _ := r0
  have HR1 : Hid _ := r1
  have HR2 : Hid _ := r2
  have HB : Hid _ := hB
  have HZ : Hid _ := z0
  have HW : Hid _ := hW
  obtain ⟨ao, cap, rfl, hcap⟩ := hs.form
  rw [ss_len] at *
  clear hW r0 r1 r2 hB z0 hs
  go_enter Tryd.func33, Tryd.ntmps33
  go_wp2_with fail
  rw [← HW.out]
  refine q.mono ?_
  rintro e w4 ⟨v', rfl, o4, b4⟩
  obtain ⟨ao4, L4, cap4, rfl, _, _⟩ := o4.form
  have R0 := rowKeep HR0.out b4
  have R1 := rowKeep HR1.out b4
  have R2 := rowKeep HR2.out b4
  have B4 : Below w.heap.size w w4 := HB.out.trans (b4.mono HB.out.size)
  have k0 : w4.cell? ⟨w.heap.size + 1 + 1, 0, none⟩ = some (.slice none 0 0) := row_at R2 0
  have f0 : w4.frozen? ⟨w.heap.size + 1 + 1, 0, none⟩ = false := row_free R2 0
  obtain ⟨X, hX, S0, S1, S2, SB, SO, SZ⟩ : ∃ X, Hid (w4.setCell ⟨w.heap.size + 1 + 1, 0, none⟩ (.slice ao4 L4 cap4) = X) ∧ X.heap[w.heap.size]? = some (.cells #[.slice ao l.length cap, .int .i64 h.n, .string h.r] 50 (0, 0)) ∧ Hid (X.heap[w.heap.size + 1]? = some (.cells (lc (.slice none 0 0) hd0) 28 (0, 0))) ∧ Hid (X.heap[w.heap.size + 1 + 1]? = some (.cells (lc (.slice ao4 L4 cap4) hd0) 28 (0, 0))) ∧ Hid (Below w.heap.size w X) ∧ Hid (Own X W.heap.size X.heap.size 9 (.slice ao4 L4 cap4) (ss l)) ∧ W.heap.size ≤ X.heap.size := by
    have hz := HZ.out
    refine ⟨_, rfl, ?_, ?_, ?_, ?_, ?_, ?_⟩
    · exact (Below.heap_setCell _ _ _ _ (by show w.heap.size ≠ w.heap.size + 1 + 1; omega)).trans R0
    · exact (Below.heap_setCell _ _ _ _ (by show w.heap.size + 1 ≠ w.heap.size + 1 + 1; omega)).trans R1
    · exact row_set R2 0 _
    · exact B4.setCell (p := ⟨w.heap.size + 1 + 1, 0, none⟩) (by show _ ≤ w.heap.size + 1 + 1; omega) _
    · exact (Own.setCell o4 _ (by omega)).mono (Nat.le_refl _) (by simp [World.setCell])
    · simp [World.setCell]; exact b4.size
  have c1 : X.cell? ⟨w.heap.size, 1, none⟩ = some (.int .i64 h.n) := row_at S0 1
  have c2 : X.cell? ⟨w.heap.size, 2, none⟩ = some (.string h.r) := row_at S0 2
  have qh := to_head X h
  rw [← hX.out] at qh c1 c2
  clear R0 R1 R2 o4 B4 q HB HR1 HR2 HR0 HW b4 S0
  go_wp2_with fail
  refine qh.mono ?_
  rw [hX.out]
  rintro e w6 ⟨rfl, b6⟩
  have T1 := rowKeep S1.out b6
  have T2 := rowKeep S2.out b6
  have TB : Below w.heap.size w w6 := SB.out.trans (b6.mono SB.out.size)
  have TO : Hid (Own w6 W.heap.size X.heap.size 9 (.slice ao4 L4 cap4) (ss l)) := Own.later SO.out b6 (Nat.le_refl _)
  have b6s := b6.size
  have th : w6.there (w.heap.size + 1 + 1) 1 2 := there_row T2 (by show _ ≤ 3; omega)
  obtain ⟨Y, HY, Y1, Y2, YB, YO, YZ⟩ : ∃ Y, Hid (w6.setCells (w.heap.size + 1 + 1) 1 (hc h).toList = Y) ∧ Hid (Y.heap[w.heap.size + 1]? = some (.cells (lc (.slice none 0 0) hd0) 28 (0, 0))) ∧ Hid (Y.heap[w.heap.size + 1 + 1]? = some (.cells (lc (.slice ao4 L4 cap4) h) 28 (0, 0))) ∧ Hid (Below w.heap.size w Y) ∧ Hid (Own Y W.heap.size X.heap.size 9 (.slice ao4 L4 cap4) (ss l)) ∧ X.heap.size ≤ Y.heap.size := by
    have hz := HZ.out
    refine ⟨_, rfl, ?_, ?_, ?_, ?_, ?_⟩
    · exact (heap_setCells_other (w.heap.size + 1 + 1) (w.heap.size + 1) (by omega) _ _ w6).trans T1
    · exact heap_setCells _ _ _ w6 (lc (.slice ao4 L4 cap4) hd0).toList _ T2
    · exact below_setCells (by omega) _ _ w6 TB
    · exact Own.keep TO.out (fun k hk1 hk2 => heap_setCells_other (w.heap.size + 1 + 1) k (by omega) _ _ w6)
    · rw [size_setCells]; exact b6s
  clear T1 T2 TB TO qh b6 S1 S2 SB SO hX c1 c2
  go_wp2_with (first | (refine wpList_store_mid rfl 26 _ _ rfl (w.heap.size + 1 + 1) 1 (hc h) rfl rfl th (sizeH _) (oneH _) ?_; rw [HY.out]) | (refine wpList_load_row rfl 28 _ rfl (w.heap.size + 1 + 1) rfl 28 (lc (.slice ao4 L4 cap4) h) (0, 0) _ Y2.out Tryd.underlying28 rfl (sizeL _ _) ?_) | (refine wpList_store_row rfl 28 _ _ rfl (w.heap.size + 1) (lc (.slice ao4 L4 cap4) h) rfl rfl 28 _ Y1.out (sizeL _ _) rfl (oneL _ rfl) ?_))
  refine bodyPost_ret (v := .agg (lc (.slice ao4 L4 cap4) h)) (results_cell_row rfl _ _ (w.heap.size + 1) 28 _ (0, 0) _ rfl (setRow_heap _ _ _ _ _ (0, 0) Y1.out) Tryd.underlying28 rfl (sizeL _ _)) rfl ⟨_, rfl, ?_, below_setRow YB.out (by omega) _⟩
  have hz := HZ.out
  exact (Own.setRow YO.out _ (by omega)).mono (by omega) (by simp; omega)

set_option maxRecDepth 1000000 in
set_option maxHeartbeats 2000000 in
theorem sz_log (w : World) (v : Value) (l : List ByteArray) (h : Hd) (left : Nat) (hs : Sl w v (ss l)) (hz : ∀ s ∈ l, s.size ≤ 9223372036854775807) (hx : l.length ≤ 9223372036854775807) (hr : h.r.size ≤ 9223372036854775807) (hlf : left ≤ 1048576) :
    Calls Tryd.prog 31 #[.agg #[v, .int .i64 h.n, .string h.r], .int .i64 (left : Int)] w fun e w' => (∃ r : Int, e = .returned (.int .i64 r) ∧ (r < 0 ∨ (l.length + Puts.tot l ≤ left ∧ h.r.size ≤ left ∧ 0 ≤ r ∧ r ≤ left))) ∧ Below w.heap.size w w' := by
  have hB : Below w.heap.size w (w.alloc (.cells #[v, .int .i64 h.n, .string h.r] 50)) := (Below.refl _ _).alloc (Nat.le_refl _) _
  have q := Strs.sz_any2 (w.alloc (.cells #[v, .int .i64 h.n, .string h.r] 50)) v l left (hs.later hB) hz hx hlf
  have HB : Hid _ := hB
  obtain ⟨ao, cap, rfl, hcap⟩ := hs.form
  rw [ss_len] at *
  clear hB hs
  go_enter Tryd.func31, Tryd.ntmps31
  go_wp2_with fail
  refine q.mono ?_
  rintro e WX ⟨⟨r, rfl, hr0⟩, hWX⟩
  subst hWX
  clear q
  by_cases h0 : r < 0
  · go_wp2
    go_ret
    exact ⟨⟨-1, rfl, .inl (by omega)⟩, HB.out⟩
  · rcases hr0 with hr0 | ⟨hr1, hr2, hr3⟩
    · exact absurd hr0 h0
    have qh : ∀ W, _ := fun W => sz_head W h r hr hr2 (by omega)
    by_cases hb : r - (h.r.size : Int) < 0
    · simp only [if_pos hb] at qh
      go_wp2_with fail
      refine (qh _).mono ?_
      rintro e w2 ⟨rfl, b2⟩
      have B2 : Below w.heap.size w w2 := HB.out.trans (b2.mono HB.out.size)
      clear qh
      go_wp2
      go_ret
      exact ⟨⟨-1, rfl, .inl (by omega)⟩, B2⟩
    · simp only [if_neg hb] at qh
      have hle : h.r.size ≤ left := by omega
      obtain ⟨m, hm⟩ : ∃ m, r - (h.r.size : Int) = m := ⟨_, rfl⟩
      have hm2 : 0 ≤ m ∧ m ≤ (left : Int) := by omega
      rw [hm] at hb
      simp only [hm] at qh
      clear hm
      go_wp2_with fail
      refine (qh _).mono ?_
      rintro e w2 ⟨rfl, b2⟩
      have B2 : Below w.heap.size w w2 := HB.out.trans (b2.mono HB.out.size)
      clear qh
      go_wp2
      go_ret
      exact ⟨⟨m, rfl, .inr ⟨hr1, hle, hm2.1, hm2.2⟩⟩, B2⟩

set_option maxRecDepth 1000000 in
set_option maxHeartbeats 2000000 in
theorem eq_log (w : World) (h : Hd) (v1 v2 : Value) (l : List ByteArray) (h1 : Sl w v1 (ss l)) (h2 : Sl w v2 (ss l)) (hl : l.length ≤ 1000000000000) :
    Calls Tryd.prog 28 #[.agg #[v1, .int .i64 h.n, .string h.r], .agg #[v2, .int .i64 h.n, .string h.r]] w fun e w' => e = .returned (.bool true) ∧ Below w.heap.size w w' := by
  obtain ⟨W, hW, r0, r1, HB⟩ : ∃ W, Hid ((w.alloc (.cells #[v1, .int .i64 h.n, .string h.r] 28)).alloc (.cells #[v2, .int .i64 h.n, .string h.r] 28) = W) ∧ W.heap[w.heap.size]? = some (.cells #[v1, .int .i64 h.n, .string h.r] 28 (0, 0)) ∧ W.heap[w.heap.size + 1]? = some (.cells #[v2, .int .i64 h.n, .string h.r] 28 (0, 0)) ∧ Hid (Below w.heap.size w W) := ⟨_, rfl, heap_alloc2_old w _ _, heap_alloc2_new w _ _, ((Below.refl _ _).alloc (Nat.le_refl _) _).alloc (by simp) _⟩
  have q := Strs.eqs_true W v1 v2 l (h1.later HB.out) (h2.later HB.out) hl
  obtain ⟨ao, cap, rfl, hcap⟩ := h1.form
  obtain ⟨ao2, cap2, rfl, hcap2⟩ := h2.form
  rw [ss_len] at *
  have qh : ∀ W', _ := fun W' => eq_head W' h
  have q' := q
  rw [← hW.out] at q'
  clear h1 h2 q
  go_enter Tryd.func28, Tryd.ntmps28
  go_wp2_with fail
  refine q'.mono ?_
  rw [hW.out]
  rintro e w1 ⟨rfl, b1, _⟩
  have s0 := rowKeep r0 (b1 _)
  have s1 := rowKeep r1 (b1 _)
  have c1 : w1.cell? ⟨w.heap.size, 1, none⟩ = some (.int .i64 h.n) := row_at s0 1
  have c2 : w1.cell? ⟨w.heap.size, 2, none⟩ = some (.string h.r) := row_at s0 2
  have d1 : w1.cell? ⟨w.heap.size + 1, 1, none⟩ = some (.int .i64 h.n) := row_at s1 1
  have d2 : w1.cell? ⟨w.heap.size + 1, 2, none⟩ = some (.string h.r) := row_at s1 2
  have HB1 : Hid (Below w.heap.size w w1) := HB.out.trans ((b1 _).mono HB.out.size)
  clear q' b1 HB s0 s1 r0 r1
  go_wp2_with fail
  refine (qh _).mono ?_
  rintro e w2 ⟨rfl, b2⟩
  have HB2 : Hid (Below w.heap.size w w2) := HB1.out.trans (b2.mono HB1.out.size)
  clear qh b2 HB1
  go_wp2
  go_ret
  exact ⟨rfl, HB2.out⟩

set_option maxRecDepth 1000000 in
set_option maxHeartbeats 2000000 in
theorem mark_log (w : World) (n : Hd) (v : Value) (lo hi : Nat) (hs : List ByteArray) (k0 : Nat) (h : Own w lo hi 9 v (ss hs)) (hhi : hi ≤ w.heap.size) (hx : hs.length ≤ 1000000000) (hk1 : 1 ≤ k0) (hk0 : k0 ≤ 1000000000) :
    Calls Tryd.prog 29 #[.agg #[v, .int .i64 n.n, .string n.r], .int .i64 (k0 : Int)] w fun e w' => e = .returned (.int .i64 ((k0 + hs.length : Nat) : Int)) ∧ Own w' lo hi 9 v (ss (Strs.mts k0 hs.length)) ∧ Apart lo hi w w' := by
  have hb : Below w.heap.size w (w.alloc (.cells #[v, .int .i64 n.n, .string n.r] 28)) := (Below.refl _ _).alloc (Nat.le_refl _) _
  have q := Strs.marks_any (w.alloc (.cells #[v, .int .i64 n.n, .string n.r] 28)) v lo hi hs k0 (h.later hb hhi) (Nat.le_trans hhi hb.size) (by omega) hk1 (by omega)
  have HA : Hid (Apart lo hi w (w.alloc (.cells #[v, .int .i64 n.n, .string n.r] 28))) := (Apart.refl lo hi w).grow hb
  obtain ⟨ao, L, cap, rfl, _, _⟩ := h.form
  obtain ⟨m, hm⟩ : ∃ m : Int, ((k0 + hs.length : Nat) : Int) = m := ⟨_, rfl⟩
  rw [hm] at q ⊢
  clear h hb hm
  go_enter Tryd.func29, Tryd.ntmps29
  go_wp2_with fail
  refine q.mono ?_
  rintro e w1 ⟨rfl, o1, a1⟩
  have HO : Hid _ := o1
  have HA2 : Hid (Apart lo hi w w1) := HA.out.trans a1
  clear q o1 a1 HA
  go_wp2
  go_ret
  exact ⟨rfl, HO.out, HA2.out⟩

set_option maxRecDepth 1000000 in
set_option maxHeartbeats 2000000 in
theorem held_log (w : World) (n : Hd) (v : Value) (m k0 : Nat) (h : Sl w v (ss (Strs.mts k0 m))) (hx : m ≤ 1000000000) (hk1 : 1 ≤ k0) (hk0 : k0 ≤ 1000000000) :
    Calls Tryd.prog 30 #[.agg #[v, .int .i64 n.n, .string n.r], .int .i64 (k0 : Int)] w fun e w' => e = .returned (.int .i64 ((k0 + m : Nat) : Int)) ∧ Below w.heap.size w w' := by
  have HB : Hid (Below w.heap.size w (w.alloc (.cells #[v, .int .i64 n.n, .string n.r] 28))) := (Below.refl _ _).alloc (Nat.le_refl _) _
  have q := Strs.helds_any (w.alloc (.cells #[v, .int .i64 n.n, .string n.r] 28)) v m k0 (h.later HB.out) (by omega) hk1 (by omega)
  obtain ⟨ao, cap, rfl, _⟩ := h.form
  obtain ⟨r, hr⟩ : ∃ r : Int, ((k0 + m : Nat) : Int) = r := ⟨_, rfl⟩
  have hr0 : ¬ r < 0 := by omega
  rw [hr] at q ⊢
  clear hr
  go_enter Tryd.func30, Tryd.ntmps30
  go_wp2_with fail
  refine q.mono ?_
  rintro e w1 ⟨rfl, b1⟩
  have HB1 : Hid (Below w.heap.size w w1) := HB.out.trans (b1.mono HB.out.size)
  clear q b1 HB
  go_wp2
  go_ret
  exact ⟨rfl, HB1.out⟩

/-- marks from k on, as heads -/
def mh (k : Nat) : Hd := ⟨(k : Int), Strs.mt (k + 1)⟩
def mhs (k n : Nat) : List Hd := (List.range n).map fun i => mh (k + 2 * i)
theorem mhs_len (k n : Nat) : (mhs k n).length = n := by simp [mhs]
theorem mhs_get (k n j : Nat) (h : j < n) : (mhs k n)[j]? = some (mh (k + 2 * j)) := by simp [mhs, h]
theorem own_keepH {n m cap lo g : Nat} {e : TypeId} {w w' : World} {cs : List Value} (h : w.ownsRow lo e n (.slice (some ⟨g, 0, none⟩) m cap) m cs) (hk : w'.heap[g]? = w.heap[g]?) : w'.ownsRow lo e n (.slice (some ⟨g, 0, none⟩) m cap) m cs := by
  refine ⟨h.1, ?_⟩
  rcases h.2 with ⟨h', _⟩ | ⟨g', cap', cur, h', hq, hh, r⟩
  · simp at h'
  · simp only [Value.slice.injEq, Option.some.injEq, Addr.mk.injEq, and_true, true_and] at h'
    obtain ⟨rfl, rfl⟩ := h'
    exact .inr ⟨g, cap, cur, rfl, hq, by rw [hk]; exact hh, r⟩

set_option maxRecDepth 1000000 in
set_option maxHeartbeats 4000000 in
theorem mark_heads (w : World) (v : Value) (lo hi : Nat) (l : List Hd) (k0 : Nat) (h : Oh w lo hi v l) (hhi : hi ≤ w.heap.size) (hx : l.length ≤ 1000000000) (hk1 : 1 ≤ k0) (hk0 : k0 ≤ 1000000000) :
    Calls Tryd.prog 42 #[v, .int .i64 (k0 : Int)] w fun e w' => e = .returned (.int .i64 ((k0 + 2 * l.length : Nat) : Int)) ∧ Oh w' lo hi v (mhs k0 l.length) ∧ Apart lo hi w w' := by
  rcases h.1.2 with ⟨rfl, h0⟩ | ⟨g, cap, cur, rfl, hbg, hg, hnc, hcm, hcs, ht⟩
  · have hcs : l = [] := List.eq_nil_of_length_eq_zero h0
    subst hcs
    go_enter Tryd.func42, Tryd.ntmps42
    go_wp2
    refine wp_loop_rounds 1 ?_; rw [rounds_succ]
    go_wp2
    go_ret
    exact ⟨rfl, h, Apart.refl _ _ _⟩
  · have hgh : g < hi := h.2 g rfl
    have hown1 := h.1
    obtain ⟨n, hn⟩ : ∃ n, n = l.length := ⟨_, rfl⟩
    have hown0 : w.ownsRow lo 26 2 (.slice (some ⟨g, 0, none⟩) n cap) n (hds l) := by rw [hn]; exact hown1
    rw [← hn] at hnc hx ⊢
    clear hg hcs ht h hcm cur hown1
    go_enter Tryd.func42, Tryd.ntmps42
    go_wp2
    go_loopw [1, 5] (fun kk i wr => ∃ (k : Nat) (L : List Value), k ≤ n ∧ i = .int .i64 k ∧ kk = .int .i64 ((k0 + 2 * k : Nat) : Int) ∧ L.take (k * 2) = (hds (mhs k0 n)).take (k * 2) ∧ wr.ownsRow lo 26 2 (.slice (some ⟨g, 0, none⟩) n cap) n L ∧ Apart lo hi w wr) (fun _ i _ => n - (intOf i).toNat)
    case atStart => exact ⟨0, hds l, Nat.zero_le _, rfl, rfl, by simp, hown0, Apart.refl _ _ _⟩
    case round =>
      obtain ⟨k, L, hk, rfl, rfl, hE0, hownr, hap⟩ := hrel
      have HE : Hid (L.take (k * 2) = (hds (mhs k0 n)).take (k * 2)) := hE0
      have HL : Hid (L.length = n * 2) := hownr.1
      clear hE0 hown0 hn
      by_cases hlt : k < n
      · have hglt : g < wr.heap.size := (hownr.lt g rfl).2
        obtain ⟨K, hK⟩ : ∃ K : Nat, K = k0 + 2 * k := ⟨_, rfl⟩
        have HK : Hid (K = k0 + 2 * k) := hK
        have hKb : K ≤ 10000000000 := by omega
        have hK1 : 1 ≤ K := by omega
        rw [← hK]
        clear hK
        have hm4 : ∀ W, _ := fun W => Strs.mark_text W (K + 1) (by omega) (by omega)
        have hc : ∀ j, j < 2 → ∃ u, wr.cell? ⟨g, k * 2 + j, none⟩ = some u := fun j hj => ⟨L[k * 2 + j]'(by have := HL.out; omega), by rw [hownr.cellAt (k * 2 + j) (by omega)]; simp⟩
        obtain ⟨u0, hu0⟩ := hc 0 (by omega)
        obtain ⟨u1, hu1⟩ := hc 1 (by omega)
        rw [Nat.add_zero] at hu0
        have hf0 := hownr.frozenAt (k * 2)
        have hf1 := hownr.frozenAt (k * 2 + 1)
        clear hc
        go_wp2_with fail
        have e1 : (K : Int) + 1 = ((K + 1 : Nat) : Int) := by omega
        rw [e1]
        obtain ⟨W4, hW4⟩ : ∃ W4, W4 = wr.setCell ⟨g, k * 2, none⟩ (.int .i64 (K : Int)) := ⟨_, rfl⟩
        have hown4 : W4.ownsRow lo 26 2 (.slice (some ⟨g, 0, none⟩) n cap) n (L.set (k * 2) (.int .i64 (K : Int))) := by
          rw [hW4]
          exact (hownr.stored _ _).1
        have hap4 : Apart lo hi w W4 := by
          rw [hW4]
          exact hap.setCell (p := ⟨g, k * 2, none⟩) hbg hgh _
        have q4 := hm4 W4
        rw [hW4] at q4
        refine q4.mono ?_
        rw [← hW4]
        rintro e w5 ⟨rfl, hb5⟩
        have hg4 : g < W4.heap.size := (hown4.lt g rfl).2
        have hown5 := own_keepH hown4 (hb5.block g hg4)
        have hap5 := hap4.grow hb5
        obtain ⟨L5, hL5⟩ : ∃ L5, L5 = L.set (k * 2) (.int .i64 (K : Int)) := ⟨_, rfl⟩
        rw [← hL5] at hown5
        have HL5 : Hid (L5.length = n * 2) := hown5.1
        obtain ⟨u5, hu5⟩ : ∃ u, w5.cell? ⟨g, k * 2 + 1, none⟩ = some u := ⟨L5[k * 2 + 1]'(by have := HL5.out; omega), by rw [hown5.cellAt (k * 2 + 1) (by omega)]; simp⟩
        have hf5 := hown5.frozenAt (k * 2 + 1)
        have HS : Hid ((w5.setCell ⟨g, k * 2 + 1, none⟩ (.string (Strs.mt (K + 1)))).ownsRow lo 26 2 (.slice (some ⟨g, 0, none⟩) n cap) n (putL L (k * 2) (mh K).cs)) := by
          have h := (hown5.stored (k * 2 + 1) (.string (Strs.mt (K + 1)))).1
          rw [hL5] at h
          exact h
        have HA : Hid (Apart lo hi w (w5.setCell ⟨g, k * 2 + 1, none⟩ (.string (Strs.mt (K + 1))))) := hap5.setCell (p := ⟨g, k * 2 + 1, none⟩) hbg hgh _
        clear q4 hm4 hownr hown4 hown5 hap hap4 hap5 hu0 hu1 hf0 hf1 hb5 hW4 hL5 HL5 e1
        go_wp2
        go_roundw
        case rel =>
          refine ⟨k + 1, putL L (k * 2) (mh K).cs, by omega, by go_num, ?_, ?_, HS.out, HA.out⟩
          · have := HK.out
            go_num
          · refine putL_take (by rw [HL.out, hds_len, mhs_len]) (by rw [hds_len, mhs_len]; omega) HE.out rfl (fun j hj => ?_)
            have hq := mhs_get k0 n k hlt
            rw [← HK.out] at hq
            obtain ⟨c0, c1⟩ := hds_get (mhs k0 n) k (mh K) hq
            match j, hj with
            | 0, _ => exact c0
            | 1, _ => exact c1
        case measure => simp [intOf]; omega
      · go_wp2
        go_ret
        have h1 := HE.out
        have h2 := HL.out
        have hkn : k = n := by omega
        subst hkn
        rw [List.take_of_length_le (by omega), List.take_of_length_le (by rw [hds_len, mhs_len]; omega)] at h1
        subst h1
        refine ⟨rfl, ⟨?_, fun g' hg' => by simp [Value.ownBlock] at hg'; omega⟩, hap⟩
        have := hownr
        rw [mhs_len]
        exact this

end Go.Proofs.YtccnhhdcdamgmaaDoor.Lg
