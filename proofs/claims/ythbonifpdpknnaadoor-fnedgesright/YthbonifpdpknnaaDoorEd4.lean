/- Chapter 7, the specification's side: one more, or not; the edge of texts; its root. -/
import Derived.Test.YthbonifpdpknnaaDoorEd3
namespace Go.Proofs.YthbonifpdpknnaaDoor.Ed
open Go.RowKit Go.Proofs.YthbonifpdpknnaaDoor.Mem Go.Proofs.YthbonifpdpknnaaDoor.Laws Go.Proofs.YthbonifpdpknnaaDoor.Bytes Go.Proofs.YthbonifpdpknnaaDoor.Sha Go.Proofs.YthbonifpdpknnaaDoor.Tr
set_option linter.unusedVariables false
set_option linter.unusedSimpArgs false

set_option maxRecDepth 1000000 in
set_option maxHeartbeats 4000000 in
theorem add_spec (w : World) (n : Int) (v : Value) (hs : List ByteArray) (s : ByteArray) (h : Sl w v (ss hs)) (hl : hs.length ≤ 1000000000) (hsz : s.size ≤ 10000000000) :
    Calls Tryd.prog 25 #[.agg #[.int .i64 n, v], .string s] w fun e w' => ∃ v', e = .returned (.tuple #[.agg #[.int .i64 (addE n hs s).1, v'], .bool (addE n hs s).2.2]) ∧ Own w' w.heap.size w'.heap.size 9 v' (ss (addE n hs s).2.1) ∧ Below w.heap.size w w' := by
  obtain ⟨W, hW⟩ : ∃ W, W = (w.alloc (.cells #[.int .i64 n, v] 34)).alloc (.cells #[.int .i64 0, .slice none 0 0] 34) := ⟨_, rfl⟩
  have r0 : W.heap[w.heap.size]? = some (.cells (ee n v) 34 (0, 0)) := by rw [hW]; exact heap_alloc2_old w _ _
  have r1 : W.heap[w.heap.size + 1]? = some (.cells (ee 0 (.slice none 0 0)) 34 (0, 0)) := by
    rw [hW]
    have := heap_alloc_new (w.alloc (.cells #[.int .i64 n, v] 34)) (.cells #[.int .i64 0, .slice none 0 0] 34)
    simpa [ee] using this
  have hB : Below w.heap.size w W := by rw [hW]; exact ((Below.refl _ _).alloc (Nat.le_refl _) _).alloc (by simp) _
  have hz2' : W.heap.size = w.heap.size + 2 := by rw [hW]; simp
  have q := ok_spec W n v hs (h.later hB) (by omega)
  have HS : Hid (Sl W v (ss hs)) := h.later hB
  have HR0 : Hid _ := r0
  have HR1 : Hid _ := r1
  have HB : Hid _ := hB
  have HZ : Hid _ := hz2'
  have HW : Hid _ := hW
  rw [hW] at r0
  obtain ⟨ao, cap, rfl, hcap⟩ := h.form
  rw [ss_len] at *
  have HL0 : Hid _ := r0
  clear hW r0 r1 hB hz2' h
  by_cases hok : okE n hs = true ∧ n ≠ 200
  · obtain ⟨ho, h200⟩ := hok
    have HN : Hid (addE n hs s = (n + 1, carry n.toNat hs (leafH s), true)) := addE_yes ho h200 s
    obtain ⟨⟨i1, i2⟩, i3, i4⟩ := okE_iff.1 ho
    obtain ⟨m, rfl⟩ : ∃ m : Nat, n = (m : Int) := ⟨n.toNat, by omega⟩
    rw [Int.toNat_natCast] at HN i3
    have q2 : ∀ W, Sl W _ (ss hs) → _ := fun W hW => add1_spec W m (.slice ao hs.length cap) hs s hW (by omega) i3 i4 hsz
    have dn : ((m : Int) == 200) = false := by rw [beq_eq_false_iff_ne]; exact h200
    rw [ho] at q
    clear i3 i4 ho h200
    go_enter Tryd.func25, Tryd.ntmps25
    go_wp2_with (refine wpList_load_row rfl 34 _ rfl w.heap.size rfl 34 (ee (m : Int) (.slice ao hs.length cap)) (0, 0) _ HL0.out Tryd.underlying34 rfl (sizeEd _ _) ?_)
    rw [← HW.out]
    refine q.mono ?_
    rintro e w1 ⟨rfl, b1⟩
    have R0 : w1.heap[w.heap.size]? = some (.cells (ee (m : Int) (.slice ao hs.length cap)) 34 (0, 0)) := rowKeep HR0.out b1
    have R1 : w1.heap[w.heap.size + 1]? = some (.cells (ee 0 (.slice none 0 0)) 34 (0, 0)) := rowKeep HR1.out b1
    have k0 : w1.cell? ⟨w.heap.size, 0, none⟩ = some (.int .i64 (m : Int)) := row_at R0 0
    have z1 : w.heap.size + 2 ≤ w1.heap.size := by have := b1.size; rw [HZ.out] at this; exact this
    have q2 := q2 w1 (HS.out.later b1)
    have HB1 : Hid (Below w.heap.size w w1) := HB.out.trans (b1.mono HB.out.size)
    have HR0' : Hid _ := R0
    clear HR1
    have HR1 : Hid _ := R1
    have HZ1 : Hid _ := z1
    clear HL0 HW q HS HB HZ R0 R1 z1 b1 HR0
    go_wp2_with (refine wpList_load_row rfl 34 _ rfl w.heap.size rfl 34 (ee (m : Int) (.slice ao hs.length cap)) (0, 0) _ HR0'.out Tryd.underlying34 rfl (sizeEd _ _) ?_)
    refine q2.mono ?_
    rintro e w2 ⟨v2, rfl, o2, b2⟩
    clear q2 HR0'
    have J1 := rowKeep HR1.out b2
    have JB : Below w.heap.size w w2 := HB1.out.trans (b2.mono HB1.out.size)
    have z2 : w.heap.size + 2 ≤ w1.heap.size := HZ1.out
    obtain ⟨ao2, L2, cap2, rfl, _, _⟩ := o2.form
    have HO : Hid (Own w2 w1.heap.size w2.heap.size 9 (.slice ao2 L2 cap2) (ss (carry m hs (leafH s)))) := o2
    have HJ : Hid _ := J1
    have HJB : Hid _ := JB
    have HZ2 : Hid (w.heap.size + 2 ≤ w1.heap.size) := z2
    clear o2 b2 J1 JB HR1 HB1 k0 z2 HZ1
    go_wp2_with (refine wpList_store_row rfl 34 _ _ rfl (w.heap.size + 1) (ee ((m : Int) + 1) (.slice ao2 L2 cap2)) rfl rfl 34 _ HJ.out (sizeEd _ _) rfl (oneEd _ rfl) ?_)
    have zz := HZ2.out
    refine bodyPost_ret (res_row_tmp rfl _ _ (w.heap.size + 1) 34 (ee ((m : Int) + 1) (.slice ao2 L2 cap2)) (0, 0) _ rfl (setRow_heap _ _ _ _ _ (0, 0) HJ.out) Tryd.underlying34 rfl (sizeEd _ _)) rfl ⟨.slice ao2 L2 cap2, by rw [HN.out]; rfl, ?_, below_setRow HJB.out (by omega) _⟩
    rw [HN.out]
    exact (HO.out.setRow _ (by omega)).mono (by omega) (by simp)
  · have HN : Hid (addE n hs s = (n, hs, false)) := addE_no hok s
    have q2 : ∀ W, Sl W _ (ss hs) → _ := fun W hW => copy_spec W n (.slice ao hs.length cap) hs hW hl
    obtain ⟨t, ht⟩ : ∃ t, okE n hs = t := ⟨_, rfl⟩
    rw [ht] at q
    have HD : Hid (t = true → n = 200) := by
      intro h1
      by_cases h2 : n = 200
      · exact h2
      · exact absurd ⟨ht.trans h1, h2⟩ hok
    clear hok ht
    go_enter Tryd.func25, Tryd.ntmps25
    go_wp2_with (refine wpList_load_row rfl 34 _ rfl w.heap.size rfl 34 (ee n (.slice ao hs.length cap)) (0, 0) _ HL0.out Tryd.underlying34 rfl (sizeEd _ _) ?_)
    rw [← HW.out]
    refine q.mono ?_
    rintro e w1 ⟨rfl, b1⟩
    have R0 : w1.heap[w.heap.size]? = some (.cells (ee n (.slice ao hs.length cap)) 34 (0, 0)) := rowKeep HR0.out b1
    have R1 : w1.heap[w.heap.size + 1]? = some (.cells (ee 0 (.slice none 0 0)) 34 (0, 0)) := rowKeep HR1.out b1
    have k0 : w1.cell? ⟨w.heap.size, 0, none⟩ = some (.int .i64 n) := row_at R0 0
    have z1 : w.heap.size + 2 ≤ w1.heap.size := by have := b1.size; rw [HZ.out] at this; exact this
    have q2 := q2 w1 (HS.out.later b1)
    have HB1 : Hid (Below w.heap.size w w1) := HB.out.trans (b1.mono HB.out.size)
    have HR0' : Hid _ := R0
    clear HR1
    have HR1 : Hid _ := R1
    have HZ1 : Hid _ := z1
    clear HL0 HW q HS HB HZ R0 R1 z1 b1 HR0
    cases t
    · clear HD
      go_wp2_with (refine wpList_load_row rfl 34 _ rfl w.heap.size rfl 34 (ee n (.slice ao hs.length cap)) (0, 0) _ HR0'.out Tryd.underlying34 rfl (sizeEd _ _) ?_)
      refine q2.mono ?_
      rintro e w2 ⟨v2, rfl, o2, b2⟩
      clear q2 HR0'
      have J1 := rowKeep HR1.out b2
      have JB : Below w.heap.size w w2 := HB1.out.trans (b2.mono HB1.out.size)
      have z2 : w.heap.size + 2 ≤ w1.heap.size := HZ1.out
      obtain ⟨ao2, L2, cap2, rfl, _, _⟩ := o2.form
      have HO : Hid (Own w2 w1.heap.size w2.heap.size 9 (.slice ao2 L2 cap2) (ss (hs))) := o2
      have HJ : Hid _ := J1
      have HJB : Hid _ := JB
      have HZ2 : Hid (w.heap.size + 2 ≤ w1.heap.size) := z2
      clear o2 b2 J1 JB HR1 HB1 k0 z2 HZ1
      go_wp2_with (refine wpList_store_row rfl 34 _ _ rfl (w.heap.size + 1) (ee n (.slice ao2 L2 cap2)) rfl rfl 34 _ HJ.out (sizeEd _ _) rfl (oneEd _ rfl) ?_)
      have zz := HZ2.out
      refine bodyPost_ret (res_row_tmp rfl _ _ (w.heap.size + 1) 34 (ee n (.slice ao2 L2 cap2)) (0, 0) _ rfl (setRow_heap _ _ _ _ _ (0, 0) HJ.out) Tryd.underlying34 rfl (sizeEd _ _)) rfl ⟨.slice ao2 L2 cap2, by rw [HN.out]; rfl, ?_, below_setRow HJB.out (by omega) _⟩
      rw [HN.out]
      exact (HO.out.setRow _ (by omega)).mono (by omega) (by simp)
    · obtain rfl := HD.out rfl
      clear HD
      go_wp2_with (refine wpList_load_row rfl 34 _ rfl w.heap.size rfl 34 (ee 200 (.slice ao hs.length cap)) (0, 0) _ HR0'.out Tryd.underlying34 rfl (sizeEd _ _) ?_)
      refine q2.mono ?_
      rintro e w2 ⟨v2, rfl, o2, b2⟩
      clear q2 HR0'
      have J1 := rowKeep HR1.out b2
      have JB : Below w.heap.size w w2 := HB1.out.trans (b2.mono HB1.out.size)
      have z2 : w.heap.size + 2 ≤ w1.heap.size := HZ1.out
      obtain ⟨ao2, L2, cap2, rfl, _, _⟩ := o2.form
      have HO : Hid (Own w2 w1.heap.size w2.heap.size 9 (.slice ao2 L2 cap2) (ss (hs))) := o2
      have HJ : Hid _ := J1
      have HJB : Hid _ := JB
      have HZ2 : Hid (w.heap.size + 2 ≤ w1.heap.size) := z2
      clear o2 b2 J1 JB HR1 HB1 k0 z2 HZ1
      go_wp2_with (refine wpList_store_row rfl 34 _ _ rfl (w.heap.size + 1) (ee 200 (.slice ao2 L2 cap2)) rfl rfl 34 _ HJ.out (sizeEd _ _) rfl (oneEd _ rfl) ?_)
      have zz := HZ2.out
      refine bodyPost_ret (res_row_tmp rfl _ _ (w.heap.size + 1) 34 (ee 200 (.slice ao2 L2 cap2)) (0, 0) _ rfl (setRow_heap _ _ _ _ _ (0, 0) HJ.out) Tryd.underlying34 rfl (sizeEd _ _)) rfl ⟨.slice ao2 L2 cap2, by rw [HN.out]; rfl, ?_, below_setRow HJB.out (by omega) _⟩
      rw [HN.out]
      exact (HO.out.setRow _ (by omega)).mono (by omega) (by simp)

end Go.Proofs.YthbonifpdpknnaaDoor.Ed
