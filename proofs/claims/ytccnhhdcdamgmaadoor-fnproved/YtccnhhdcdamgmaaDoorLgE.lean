/- Chapter 11, the specification's draws of what is proved. -/
import Derived.Test.YtccnhhdcdamgmaaDoorLgD
namespace Go.Proofs.YtccnhhdcdamgmaaDoor.Lg
open Go.RowKit Go.Proofs.YtccnhhdcdamgmaaDoor.Mem Go.Proofs.YtccnhhdcdamgmaaDoor.Laws Go.Proofs.YtccnhhdcdamgmaaDoor.Bytes Go.Proofs.YtccnhhdcdamgmaaDoor.Sha Go.Proofs.YtccnhhdcdamgmaaDoor.Tr Go.Proofs.YtccnhhdcdamgmaaDoor.Draw Go.Proofs.YtccnhhdcdamgmaaDoor.He
set_option linter.unusedVariables false
set_option linter.unusedSimpArgs false

set_option maxRecDepth 1000000 in
set_option maxHeartbeats 4000000 in
theorem drawIn_any (w : World) (vb : Value) (xs : List Int) (hs : Sl w vb (bs xs)) (hby : Byt xs) (hx : xs.length ≤ 140737488355328) :
    Calls Tryd.prog 17 #[vb] w fun e w' => ∃ (v' : Value) (l : List ByteArray) (h : Hd) (i : Int), e = .returned (.tuple #[.agg #[v', .int .i64 h.n, .string h.r], .int .i64 i]) ∧ l.length ≤ 9 ∧ (∀ s ∈ l, s.size ≤ 3) ∧ h.r.size ≤ 32 ∧ (-1 ≤ i ∧ i ≤ 9) ∧ Sl w' v' (ss l) ∧ Below w.heap.size w w' := by
  obtain ⟨W, hW, R0, bW, zW⟩ : ∃ W, Hid (w.alloc (.cells #[.slice none 0 0, .int .i64 0, .string ⟨#[]⟩] 28) = W) ∧ Hid (W.heap[w.heap.size]? = some (.cells (lc (.slice none 0 0) hd0) 28 (0, 0))) ∧ Hid (Below w.heap.size w W) ∧ w.heap.size < W.heap.size := ⟨_, rfl, heap_alloc_new w _, (Below.refl _ _).alloc (Nat.le_refl _) _, by simp⟩
  have q1 := new_any W vb xs (hs.later bW.out) hby hx
  have HS : Hid (Sl W vb (bs xs)) := hs.later bW.out
  have q1' := q1
  rw [← hW.out] at q1'
  obtain ⟨aob, capb, rfl, hcb⟩ := hs.form
  clear q1 hs
  go_enter Tryd.func17, Tryd.ntmps17
  go_wp2_with fail
  refine q1'.mono ?_
  rw [hW.out]
  rintro e w1 ⟨rfl, d1⟩
  have R1 : Hid (w1.heap[w.heap.size]? = some (.cells (lc (.slice none 0 0) hd0) 28 (0, 0))) := drawn_row R0.out d1 (by omega)
  have z1 : W.heap.size < w1.heap.size := d1.cur.lt
  have q2 := any11 W w1 W.heap.size _ xs HS.out hby hx d1.below (Nat.le_refl _) d1.cur
  clear q1' R0
  go_wp2_with fail
  refine q2.mono ?_
  rintro e w2 ⟨v2, l, h, rfl, hll, hls, hhr, o2, d2⟩
  obtain ⟨ao2, L2, cap2, rfl, _, _⟩ := Mem.Own.form o2
  have z2 : w1.heap.size ≤ w2.heap.size := d2.apart.size
  have R2 : Hid (w2.heap[w.heap.size]? = some (.cells (lc (.slice none 0 0) hd0) 28 (0, 0))) := drawn_row R1.out d2 (by omega)
  have D2 : Hid (Drawn W W W.heap.size (.slice aob (bs xs).length capb) xs w2) := d1.and d2
  have d3 : ∀ ob, Hid (Drawn W W W.heap.size (.slice aob (bs xs).length capb) xs (w2.alloc ob)) := fun ob => by
    show Drawn _ _ _ _ _ _
    exact ⟨Cur.alloc D2.out.cur _, D2.out.apart.grow ((Below.refl _ _).alloc (Nat.le_refl _) _), D2.out.below.alloc (by omega) _⟩
  have O2 : Hid (Own w2 w1.heap.size w2.heap.size 9 (.slice ao2 L2 cap2) (ss l)) := o2
  clear q2 o2 d2 R1
  go_wp2_with fail
  refine (int_any W _ W.heap.size _ xs w2.heap.size [0, 1, 2, 3, -1, 9] (lit_block _ _ _) (by omega) (by simp) (by simp) HS.out hby hx (d3 _).out.below (Nat.le_refl _) (d3 _).out.cur).mono ?_
  rintro e w4 ⟨i, rfl, him, d4⟩
  have hib : -1 ≤ i ∧ i ≤ 9 := by simp at him; omega
  have z4 : w2.heap.size + 1 ≤ w4.heap.size := by have := d4.apart.size; simpa using this
  have R4 : Hid (w4.heap[w.heap.size]? = some (.cells (lc (.slice none 0 0) hd0) 28 (0, 0))) := drawn_row ((heap_alloc_old _ _ (by omega)).trans R2.out) d4 (by omega)
  have O4 : Hid (Own w4 w1.heap.size w2.heap.size 9 (.slice ao2 L2 cap2) (ss l)) := Own.drawn (Own.later O2.out ((Below.refl _ _).alloc (Nat.le_refl _) _) (Nat.le_refl _)) d4 (.inl (by omega)) (by simp)
  have B4 : Hid (Below w.heap.size w w4) := bW.out.trans (d4.below.mono (by omega))
  clear d3 d4 O2 R2 D2 him
  go_wp2_with (refine wpList_store_row rfl 28 _ _ rfl w.heap.size (lc (.slice ao2 L2 cap2) h) rfl rfl 28 _ R4.out (sizeL _ _) rfl (oneL _ rfl) ?_)
  refine bodyPost_ret (res_row_tmp rfl _ _ w.heap.size 28 (lc (.slice ao2 L2 cap2) h) (0, 0) _ rfl (setRow_heap _ _ _ _ _ (0, 0) R4.out) Tryd.underlying28 rfl (sizeL _ _)) rfl ⟨_, l, h, i, rfl, hll, hls, hhr, hib, ?_, below_setRow B4.out (Nat.le_refl _) _⟩
  exact (Own.setRow O4.out _ (by omega)).sl

set_option maxRecDepth 1000000 in
set_option maxHeartbeats 4000000 in
theorem drawGrown_any (w : World) (vb : Value) (xs : List Int) (hs : Sl w vb (bs xs)) (hby : Byt xs) (hx : xs.length ≤ 140737488355328) :
    Calls Tryd.prog 20 #[vb] w fun e w' => ∃ (v' : Value) (l : List ByteArray) (h : Hd) (i : Int), e = .returned (.tuple #[.agg #[v', .int .i64 h.n, .string h.r], .int .i64 i]) ∧ l.length ≤ 9 ∧ (∀ s ∈ l, s.size ≤ 3) ∧ h.r.size ≤ 32 ∧ (-1 ≤ i ∧ i ≤ 9) ∧ Sl w' v' (ss l) ∧ Below w.heap.size w w' := by
  obtain ⟨W, hW, R0, bW, zW⟩ : ∃ W, Hid (w.alloc (.cells #[.slice none 0 0, .int .i64 0, .string ⟨#[]⟩] 28) = W) ∧ Hid (W.heap[w.heap.size]? = some (.cells (lc (.slice none 0 0) hd0) 28 (0, 0))) ∧ Hid (Below w.heap.size w W) ∧ w.heap.size < W.heap.size := ⟨_, rfl, heap_alloc_new w _, (Below.refl _ _).alloc (Nat.le_refl _) _, by simp⟩
  have q1 := new_any W vb xs (hs.later bW.out) hby hx
  have HS : Hid (Sl W vb (bs xs)) := hs.later bW.out
  have q1' := q1
  rw [← hW.out] at q1'
  obtain ⟨aob, capb, rfl, hcb⟩ := hs.form
  clear q1 hs
  go_enter Tryd.func20, Tryd.ntmps20
  go_wp2_with fail
  refine q1'.mono ?_
  rw [hW.out]
  rintro e w1 ⟨rfl, d1⟩
  have R1 : Hid (w1.heap[w.heap.size]? = some (.cells (lc (.slice none 0 0) hd0) 28 (0, 0))) := drawn_row R0.out d1 (by omega)
  have z1 : W.heap.size < w1.heap.size := d1.cur.lt
  have q2 := any11 W w1 W.heap.size _ xs HS.out hby hx d1.below (Nat.le_refl _) d1.cur
  clear q1' R0
  go_wp2_with fail
  refine q2.mono ?_
  rintro e w2 ⟨v2, l, h, rfl, hll, hls, hhr, o2, d2⟩
  obtain ⟨ao2, L2, cap2, rfl, _, _⟩ := Mem.Own.form o2
  have z2 : w1.heap.size ≤ w2.heap.size := d2.apart.size
  have R2 : Hid (w2.heap[w.heap.size]? = some (.cells (lc (.slice none 0 0) hd0) 28 (0, 0))) := drawn_row R1.out d2 (by omega)
  have D2 : Hid (Drawn W W W.heap.size (.slice aob (bs xs).length capb) xs w2) := d1.and d2
  have d3 : ∀ ob, Hid (Drawn W W W.heap.size (.slice aob (bs xs).length capb) xs (w2.alloc ob)) := fun ob => by
    show Drawn _ _ _ _ _ _
    exact ⟨Cur.alloc D2.out.cur _, D2.out.apart.grow ((Below.refl _ _).alloc (Nat.le_refl _) _), D2.out.below.alloc (by omega) _⟩
  have O2 : Hid (Own w2 w1.heap.size w2.heap.size 9 (.slice ao2 L2 cap2) (ss l)) := o2
  clear q2 o2 d2 R1
  go_wp2_with fail
  refine (int_any W _ W.heap.size _ xs w2.heap.size [1, 2, 3, 0, -1, 9] (lit_block _ _ _) (by omega) (by simp) (by simp) HS.out hby hx (d3 _).out.below (Nat.le_refl _) (d3 _).out.cur).mono ?_
  rintro e w4 ⟨i, rfl, him, d4⟩
  have hib : -1 ≤ i ∧ i ≤ 9 := by simp at him; omega
  have z4 : w2.heap.size + 1 ≤ w4.heap.size := by have := d4.apart.size; simpa using this
  have R4 : Hid (w4.heap[w.heap.size]? = some (.cells (lc (.slice none 0 0) hd0) 28 (0, 0))) := drawn_row ((heap_alloc_old _ _ (by omega)).trans R2.out) d4 (by omega)
  have O4 : Hid (Own w4 w1.heap.size w2.heap.size 9 (.slice ao2 L2 cap2) (ss l)) := Own.drawn (Own.later O2.out ((Below.refl _ _).alloc (Nat.le_refl _) _) (Nat.le_refl _)) d4 (.inl (by omega)) (by simp)
  have B4 : Hid (Below w.heap.size w w4) := bW.out.trans (d4.below.mono (by omega))
  clear d3 d4 O2 R2 D2 him
  go_wp2_with (refine wpList_store_row rfl 28 _ _ rfl w.heap.size (lc (.slice ao2 L2 cap2) h) rfl rfl 28 _ R4.out (sizeL _ _) rfl (oneL _ rfl) ?_)
  refine bodyPost_ret (res_row_tmp rfl _ _ w.heap.size 28 (lc (.slice ao2 L2 cap2) h) (0, 0) _ rfl (setRow_heap _ _ _ _ _ (0, 0) R4.out) Tryd.underlying28 rfl (sizeL _ _)) rfl ⟨_, l, h, i, rfl, hll, hls, hhr, hib, ?_, below_setRow B4.out (Nat.le_refl _) _⟩
  exact (Own.setRow O4.out _ (by omega)).sl

end Go.Proofs.YtccnhhdcdamgmaaDoor.Lg
