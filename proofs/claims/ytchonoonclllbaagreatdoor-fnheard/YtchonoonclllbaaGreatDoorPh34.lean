/- Texts in one: EsD, EsE, KpF, HfO. -/
import Derived.Test.YtchonoonclllbaaGreatDoorPh33
import Derived.Test.YtchonoonclllbaaGreatDoorPh22
set_option maxHeartbeats 16000000
set_option linter.unusedVariables false
set_option linter.unusedSimpArgs false
namespace Go.Proofs.YtchonoonclllbaaGreatDoor.Ed
open Go.RowKit Mem Laws Bytes Sha Tr
set_option maxRecDepth 1000000 in
theorem all_impl (w : World) (n : Int) (v vl : Value) (hs l : List ByteArray) (hG : Glob w) (h : Sl w v (ss hs)) (h2 : Sl w vl (ss l)) (hl : hs.length ≤ 1000000000) (hz : ∀ s ∈ hs, s.size ≤ 1000000000000) (hl2 : l.length ≤ 1000000000) (hz2 : ∀ s ∈ l, s.size ≤ 10000000000) :
  Calls Tryz.prog 118 #[.agg #[.int .i64 n, v], vl] w fun e w' => ∃ v', e = .returned (.tuple #[.agg #[.int .i64 (allE n hs l).1, v'], .bool (allE n hs l).2.2]) ∧ Own w' w.heap.size w'.heap.size 9 v' (ss (allE n hs l).2.1) ∧ Below w.heap.size w w' := by
 obtain ⟨W, hW⟩ : ∃ W, W = (w.alloc (.cells #[.int .i64 n, v] 149)).alloc (.cells #[.int .i64 0, .slice none 0 0] 149) := ⟨_, rfl⟩
 have r0 : W.heap[w.heap.size]? = some (.cells (ee n v) 149 (0, 0)) := by rw [hW]; exact heap_alloc2_old w _ _
 have r1 : W.heap[w.heap.size + 1]? = some (.cells (ee 0 (.slice none 0 0)) 149 (0, 0)) := by
  rw [hW]
  have := heap_alloc_new (w.alloc (.cells #[.int .i64 n, v] 149)) (.cells #[.int .i64 0, .slice none 0 0] 149)
  simpa [ee] using this
 have hB : Below w.heap.size w W := by rw [hW]; exact ((Below.refl _ _).alloc (Nat.le_refl _) _).alloc (by simp) _
 have hz2' : W.heap.size = w.heap.size + 2 := by rw [hW]; simp
 have q := ok_impl W n v hs (h.later hB) (by omega)
 have q2 : ∀ X, Below W.heap.size W X → _ := fun X hX => ownE_impl X n v hs ((h.later hB).later hX) hl hz
 have q3 : ∀ X, Below W.heap.size W X → _ := fun X hX => texts_impl X v hs ((h.later hB).later hX) hl hz
 have HS2 : Hid (Sl W vl (ss l)) := h2.later hB
 have HZL : Hid (∀ s ∈ l, s.size ≤ 10000000000) := hz2
 have HG : Hid (Glob w) := hG
 have HR0 : Hid _ := r0
 have HR1 : Hid _ := r1
 have HB : Hid _ := hB
 have HZ : Hid _ := hz2'
 have HW : Hid _ := hW
 rw [hW] at r0
 obtain ⟨ao, cap, rfl, hcap⟩ := h.form
 obtain ⟨aol, capl, rfl, hcapl⟩ := h2.form
 simp only [ss_len] at *
 have HL0 : Hid _ := r0
 clear hW r0 r1 hB hz2' h h2 hz hz2 hG
 by_cases h0 : l.length = 0
 ·have HN : Hid (allE n hs l = (n, hs, true)) := by
   show _ = _
   rw [List.eq_nil_of_length_eq_zero h0]; rfl
  have d0 : ((l.length : Int) == 0) = true := by rw [beq_iff_eq]; omega
  clear h0 q q3 HZL HG HS2
  go_enter Tryz.func118, Tryz.ntmps118
  go_wp2_with (refine wpList_load_row rfl 149 _ rfl w.heap.size rfl 149 (ee n (.slice ao hs.length cap)) (0, 0) _ HL0.out Tryz.underlying149 rfl (sizeEd _ _) ?_)
  rw [← HW.out]
  refine (q2 _ (Below.refl _ _)).mono ?_
  rintro e w2 ⟨v2, rfl, o2, b2⟩
  have J1 := rowKeep HR1.out b2
  have JB : Below w.heap.size w w2 := HB.out.trans (b2.mono HB.out.size)
  have z2 : w.heap.size + 2 ≤ W.heap.size := (by rw [HZ.out]; exact Nat.le_refl _)
  obtain ⟨ao2, L2, cap2, rfl, _, _⟩ := o2.form
  have HO : Hid (Own w2 W.heap.size w2.heap.size 9 (.slice ao2 L2 cap2) (ss hs)) := o2
  have HJ : Hid _ := J1
  have HJB : Hid _ := JB
  have HZ2 : Hid (w.heap.size + 2 ≤ W.heap.size) := z2
  clear q2 o2 b2 J1 JB z2
  go_wp2_with (refine wpList_store_row rfl 149 _ _ rfl (w.heap.size + 1) (ee n (.slice ao2 L2 cap2)) rfl rfl 149 _ HJ.out (sizeEd _ _) rfl (oneEd _ rfl) ?_)
  have zz := HZ2.out
  refine bodyPost_ret (res_row_tmp rfl _ _ (w.heap.size + 1) 149 (ee n (.slice ao2 L2 cap2)) (0, 0) _ rfl (setRow_heap _ _ _ _ _ (0, 0) HJ.out) Tryz.underlying149 rfl (sizeEd _ _)) rfl ⟨.slice ao2 L2 cap2, by rw [HN.out]; rfl, ?_, below_setRow HJB.out (by omega) _⟩
  rw [HN.out]
  exact (HO.out.setRow _ (by omega)).mono (by omega) (by simp)
 have d0 : ((l.length : Int) == 0) = false := by rw [beq_eq_false_iff_ne]; omega
 have hl1 : 1 ≤ l.length := by omega
 clear h0
 by_cases hok : okE n hs = false
 ·have HN : Hid (allE n hs l = (n, hs, false)) := allE_bad hok hl1
  rw [hok] at q
  clear hok q3 HZL HG HS2
  go_enter Tryz.func118, Tryz.ntmps118
  go_wp2_with (refine wpList_load_row rfl 149 _ rfl w.heap.size rfl 149 (ee n (.slice ao hs.length cap)) (0, 0) _ HL0.out Tryz.underlying149 rfl (sizeEd _ _) ?_)
  rw [← HW.out]
  refine q.mono ?_
  rintro e w1 ⟨rfl, b1⟩
  have R0 : w1.heap[w.heap.size]? = some (.cells (ee n (.slice ao hs.length cap)) 149 (0, 0)) := rowKeep HR0.out b1
  have R1 : w1.heap[w.heap.size + 1]? = some (.cells (ee 0 (.slice none 0 0)) 149 (0, 0)) := rowKeep HR1.out b1
  have k0 : w1.cell? ⟨w.heap.size, 0, none⟩ = some (.int .i64 n) := row_at R0 0
  have k1 : w1.cell? ⟨w.heap.size, 1, none⟩ = some (.slice ao hs.length cap) := row_at R0 1
  have z1 : w.heap.size + 2 ≤ w1.heap.size := by have := b1.size; rw [HZ.out] at this; exact this
  have HB1 : Hid (Below w.heap.size w w1) := HB.out.trans (b1.mono HB.out.size)
  have HW1 : Hid (Below W.heap.size W w1) := b1
  have HR0' : Hid _ := R0
  clear HR1
  have HR1 : Hid _ := R1
  have HZ1 : Hid _ := z1
  clear HL0 HW q HB HZ R0 R1 z1 b1 HR0
  go_wp2_with (refine wpList_load_row rfl 149 _ rfl w.heap.size rfl 149 (ee n (.slice ao hs.length cap)) (0, 0) _ HR0'.out Tryz.underlying149 rfl (sizeEd _ _) ?_)
  refine (q2 _ HW1.out).mono ?_
  rintro e w2 ⟨v2, rfl, o2, b2⟩
  have J1 := rowKeep HR1.out b2
  have JB : Below w.heap.size w w2 := HB1.out.trans (b2.mono HB1.out.size)
  have z2 : w.heap.size + 2 ≤ w1.heap.size := HZ1.out
  obtain ⟨ao2, L2, cap2, rfl, _, _⟩ := o2.form
  have HO : Hid (Own w2 w1.heap.size w2.heap.size 9 (.slice ao2 L2 cap2) (ss hs)) := o2
  have HJ : Hid _ := J1
  have HJB : Hid _ := JB
  have HZ2 : Hid (w.heap.size + 2 ≤ w1.heap.size) := z2
  clear q2 o2 b2 J1 JB z2
  go_wp2_with (refine wpList_store_row rfl 149 _ _ rfl (w.heap.size + 1) (ee n (.slice ao2 L2 cap2)) rfl rfl 149 _ HJ.out (sizeEd _ _) rfl (oneEd _ rfl) ?_)
  have zz := HZ2.out
  refine bodyPost_ret (res_row_tmp rfl _ _ (w.heap.size + 1) 149 (ee n (.slice ao2 L2 cap2)) (0, 0) _ rfl (setRow_heap _ _ _ _ _ (0, 0) HJ.out) Tryz.underlying149 rfl (sizeEd _ _)) rfl ⟨.slice ao2 L2 cap2, by rw [HN.out]; rfl, ?_, below_setRow HJB.out (by omega) _⟩
  rw [HN.out]
  exact (HO.out.setRow _ (by omega)).mono (by omega) (by simp)
 have hok : okE n hs = true := by
  cases e : okE n hs with
  | false => exact absurd e hok
  | true => rfl
 obtain ⟨⟨i1, i2⟩, i3, i4⟩ := okE_iff.1 hok
 obtain ⟨m, rfl⟩ : ∃ m : Nat, n = (m : Int) := ⟨n.toNat, by omega⟩
 rw [Int.toNat_natCast] at i3
 by_cases hf : 200 < m + l.length
 ·have HN : Hid (allE (m : Int) hs l = ((m : Int), hs, false)) := allE_full hok hf
  have hf' : (200 : Int) - (m : Int) < (l.length : Int) := by omega
  have hwr : IntKind.i64.wrap (200 - (m : Int)) = 200 - (m : Int) := by rw [IntKind.wrap_i64]; omega
  rw [hok] at q
  clear hok q3 HZL HG HS2 i3 i4
  go_enter Tryz.func118, Tryz.ntmps118
  go_wp2_with (refine wpList_load_row rfl 149 _ rfl w.heap.size rfl 149 (ee (m : Int) (.slice ao hs.length cap)) (0, 0) _ HL0.out Tryz.underlying149 rfl (sizeEd _ _) ?_)
  rw [← HW.out]
  refine q.mono ?_
  rintro e w1 ⟨rfl, b1⟩
  have R0 : w1.heap[w.heap.size]? = some (.cells (ee (m : Int) (.slice ao hs.length cap)) 149 (0, 0)) := rowKeep HR0.out b1
  have R1 : w1.heap[w.heap.size + 1]? = some (.cells (ee 0 (.slice none 0 0)) 149 (0, 0)) := rowKeep HR1.out b1
  have k0 : w1.cell? ⟨w.heap.size, 0, none⟩ = some (.int .i64 (m : Int)) := row_at R0 0
  have k1 : w1.cell? ⟨w.heap.size, 1, none⟩ = some (.slice ao hs.length cap) := row_at R0 1
  have z1 : w.heap.size + 2 ≤ w1.heap.size := by have := b1.size; rw [HZ.out] at this; exact this
  have HB1 : Hid (Below w.heap.size w w1) := HB.out.trans (b1.mono HB.out.size)
  have HW1 : Hid (Below W.heap.size W w1) := b1
  have HR0' : Hid _ := R0
  clear HR1
  have HR1 : Hid _ := R1
  have HZ1 : Hid _ := z1
  clear HL0 HW q HB HZ R0 R1 z1 b1 HR0
  go_wp2_with (refine wpList_load_row rfl 149 _ rfl w.heap.size rfl 149 (ee (m : Int) (.slice ao hs.length cap)) (0, 0) _ HR0'.out Tryz.underlying149 rfl (sizeEd _ _) ?_)
  refine (q2 _ HW1.out).mono ?_
  rintro e w2 ⟨v2, rfl, o2, b2⟩
  have J1 := rowKeep HR1.out b2
  have JB : Below w.heap.size w w2 := HB1.out.trans (b2.mono HB1.out.size)
  have z2 : w.heap.size + 2 ≤ w1.heap.size := HZ1.out
  obtain ⟨ao2, L2, cap2, rfl, _, _⟩ := o2.form
  have HO : Hid (Own w2 w1.heap.size w2.heap.size 9 (.slice ao2 L2 cap2) (ss hs)) := o2
  have HJ : Hid _ := J1
  have HJB : Hid _ := JB
  have HZ2 : Hid (w.heap.size + 2 ≤ w1.heap.size) := z2
  clear q2 o2 b2 J1 JB z2
  go_wp2_with (refine wpList_store_row rfl 149 _ _ rfl (w.heap.size + 1) (ee (m : Int) (.slice ao2 L2 cap2)) rfl rfl 149 _ HJ.out (sizeEd _ _) rfl (oneEd _ rfl) ?_)
  have zz := HZ2.out
  refine bodyPost_ret (res_row_tmp rfl _ _ (w.heap.size + 1) 149 (ee (m : Int) (.slice ao2 L2 cap2)) (0, 0) _ rfl (setRow_heap _ _ _ _ _ (0, 0) HJ.out) Tryz.underlying149 rfl (sizeEd _ _)) rfl ⟨.slice ao2 L2 cap2, by rw [HN.out]; rfl, ?_, below_setRow HJB.out (by omega) _⟩
  rw [HN.out]
  exact (HO.out.setRow _ (by omega)).mono (by omega) (by simp)
 have hf : m + l.length ≤ 200 := by omega
 have HN : Hid (allE (m : Int) hs l = (((m + l.length : Nat) : Int), cfold m hs l, true)) := allE_yes hok hf
 have HOK : Hid (okE (m : Int) hs = true) := hok
 have hf' : ¬ (200 : Int) - (m : Int) < (l.length : Int) := by omega
 have hwr : IntKind.i64.wrap (200 - (m : Int)) = 200 - (m : Int) := by rw [IntKind.wrap_i64]; omega
 rw [hok] at q
 clear hok q2 i3 i4
 go_enter Tryz.func118, Tryz.ntmps118
 go_wp2_with (refine wpList_load_row rfl 149 _ rfl w.heap.size rfl 149 (ee (m : Int) (.slice ao hs.length cap)) (0, 0) _ HL0.out Tryz.underlying149 rfl (sizeEd _ _) ?_)
 rw [← HW.out]
 refine q.mono ?_
 rintro e w1 ⟨rfl, b1⟩
 have R0 : w1.heap[w.heap.size]? = some (.cells (ee (m : Int) (.slice ao hs.length cap)) 149 (0, 0)) := rowKeep HR0.out b1
 have R1 : w1.heap[w.heap.size + 1]? = some (.cells (ee 0 (.slice none 0 0)) 149 (0, 0)) := rowKeep HR1.out b1
 have k0 : w1.cell? ⟨w.heap.size, 0, none⟩ = some (.int .i64 (m : Int)) := row_at R0 0
 have k1 : w1.cell? ⟨w.heap.size, 1, none⟩ = some (.slice ao hs.length cap) := row_at R0 1
 have z1 : w.heap.size + 2 ≤ w1.heap.size := by have := b1.size; rw [HZ.out] at this; exact this
 have HB1 : Hid (Below w.heap.size w w1) := HB.out.trans (b1.mono HB.out.size)
 have HW1 : Hid (Below W.heap.size W w1) := b1
 have HR0' : Hid _ := R0
 have HZ1 : Hid _ := z1
 clear HL0 HW q R0 R1 z1 b1
 go_wp2_with fail
 refine (q3 _ HW1.out).mono ?_
 rintro e w2 ⟨v2, rfl, o2, b2⟩
 obtain ⟨ao2, L2, cap2, rfl, _, _⟩ := o2.form
 have W2 : Below W.heap.size W w2 := HW1.out.trans (b2.mono HW1.out.size)
 have HS3 : Hid (Sk (w2.alloc (.cells #[.slice ao2 L2 cap2] 190)) W.heap.size w2.heap.size (cfold m hs (l.take 0))) := ⟨_, W2.size, heap_alloc_new _ _, (o2.mono HW1.out.size (Nat.le_refl _)).alloc _⟩
 have HW3 : Hid (Below W.heap.size W (w2.alloc (.cells #[.slice ao2 L2 cap2] 190))) := W2.alloc W2.size _
 clear q3 o2 b2 W2 HB1 HW1 HR0' HZ1 k0 k1 hok
 go_wp2
 go_loopw [37] (fun i wr => ∃ k : Nat, k ≤ l.length ∧ i = .int .i64 (k : Int) ∧ Hid (Sk wr W.heap.size w2.heap.size (cfold m hs (l.take k))) ∧ Hid (Below W.heap.size W wr)) (fun i _ => l.length - (intOf i).toNat)
 case atStart => exact ⟨0, Nat.zero_le _, rfl, HS3, HW3⟩
 case round =>
  obtain ⟨k, hk, rfl, HS, HWr⟩ := hrel
  clear HS3 HW3
  have zW := HZ.out
  have R0 : wr.heap[w.heap.size]? = some (.cells (ee (m : Int) (.slice ao hs.length cap)) 149 (0, 0)) := (HWr.out.block _ (by omega)).trans HR0.out
  have k0 : wr.cell? ⟨w.heap.size, 0, none⟩ = some (.int .i64 (m : Int)) := row_at R0 0
  have HG' : ∀ X, Below W.heap.size W X → Glob X := fun X hX => HG.out.later (HB.out.trans (hX.mono HB.out.size))
  by_cases hlt : k < l.length
  ·obtain ⟨s, hs0⟩ : ∃ s, l[k]? = some s := ⟨l[k], by simp⟩
   have hlt' : (k : Int) < (l.length : Int) := by omega
   obtain ⟨b, off, rfl, hcell⟩ : ∃ b off, aol = some ⟨b, off, none⟩ ∧ wr.cell? ⟨b, off + k, none⟩ = some (.string s) := by
    obtain ⟨ao', c', he, _, _, hr⟩ := HS2.out.later HWr.out
    rw [ss_len] at he hr
    simp only [Value.slice.injEq] at he
    obtain ⟨rfl, _, rfl⟩ := he
    obtain ⟨b, off, he, hc⟩ := hr (by omega)
    exact ⟨b, off, he, by rw [hc k hlt]; simp [ss, hs0]⟩
   have hok' := (goE_yes (l.take k) m hs HOK.out (by rw [List.length_take]; omega)).2
   rw [List.length_take, Nat.min_eq_left hk] at hok'
   obtain ⟨_, hp', h32⟩ := okE_iff.1 hok'
   rw [Int.toNat_natCast] at hp'
   have q4 : ∀ X, Below W.heap.size W X → _ := fun X hX => leaf_impl X s (HG' X hX) (by have := HZL.out s (List.mem_of_getElem? hs0); omega)
   have hj : ((m + k : Nat) : Int) = (m : Int) + (k : Int) := by omega
   have q5 : ∀ X, Below W.heap.size W X → Sk X W.heap.size w2.heap.size (cfold m hs (l.take k)) → _ := fun X hX hS => carried_impl X W.heap.size w2.heap.size (m + k) (cfold m hs (l.take k)) (leafH s) (fun Y hY => HG' Y (hX.trans hY)) hS (by omega) hp' h32 (leafH_size s)
   simp only [hj] at q5
   have HC : Hid (cfold m hs (l.take (k + 1)) = carry (m + k) (cfold m hs (l.take k)) (leafH s)) := cfold_at hs0
   have HLn : Hid ((carry (m + k) (cfold m hs (l.take k)) (leafH s)).length ≤ 9) := by
    have h1 := carry_len (m + k) (cfold m hs (l.take k)) (leafH s) hp'
    have h2 := popc_le ⟨m + k + 1, by omega⟩
    simp only at h2
    show _ ≤ _
    omega
   have hwk : IntKind.i64.wrap ((m : Int) + (k : Int)) = (m : Int) + (k : Int) := by rw [IntKind.wrap_i64]; omega
   have hb : w.heap.size < W.heap.size := by omega
   clear hs0 hok' hp' h32 R0 hj zW HG'
   go_wp2_with fail
   refine wp_region_held_drew (S := fun w' => w'.cell? ⟨w.heap.size, 0, none⟩ = some (.int .i64 (m : Int))) (by kernel_rfl) k0 (fun hHeld => ?_)
   (refine wpAnyH_take (i := 0) (v := ?v0x1) rfl (by kernel_rfl) (by kernel_rfl) (by kernel_rfl) (fun _ _ _ h => h) (Or.inl ⟨by rfl, ?hy0x1⟩) (by assumption) ?rest0x1; case hy0x1 => (intro w hSw; (try dsimp only at hSw); go_split_ands; go_simp; (try with_reducible rfl)))
   try simp only [Act.put, pq]
   (refine wpAnyH_take (i := 1) (v := ?v1x2) rfl (by kernel_rfl) (by kernel_rfl) (by kernel_rfl) (fun _ _ _ h => h) (Or.inl ⟨by rfl, ?hy1x2⟩) (by assumption) ?rest1x2; case hy1x2 => (intro w hSw; (try dsimp only at hSw); go_split_ands; go_simp; (try with_reducible rfl)))
   try simp only [Act.put, pq]
   (refine wpAnyH_take (i := 3) (v := ?v3x3) rfl (by kernel_rfl) (by kernel_rfl) (by kernel_rfl) (fun _ _ _ h => h) (Or.inl ⟨by rfl, ?hy3x3⟩) (by assumption) ?rest3x3; case hy3x3 => (intro w hSw; (try dsimp only at hSw); go_split_ands; go_simp; (try with_reducible rfl)))
   try simp only [Act.put, pq]
   (refine wpAnyH_take (i := 4) (v := ?v4x4) rfl (by kernel_rfl) (by kernel_rfl) (by kernel_rfl) (fun _ _ _ h => h) (Or.inl ⟨by rfl, ?hy4x4⟩) (by assumption) ?rest4x4; case hy4x4 => (intro w hSw; (try dsimp only at hSw); go_split_ands; go_simp; (try with_reducible rfl)))
   try simp only [Act.put, pq]
   (refine wpAnyH_take (i := 5) (v := ?v5x5) rfl (by kernel_rfl) (by kernel_rfl) (by kernel_rfl) (fun _ _ _ h => h) (Or.inl ⟨by rfl, ?hy5x5⟩) (by assumption) ?rest5x5; case hy5x5 => (intro w hSw; (try dsimp only at hSw); go_split_ands; go_simp; (try with_reducible rfl)))
   try simp only [Act.put, pq]
   (refine wpAnyH_take (i := 6) (v := ?v6x6) rfl (by kernel_rfl) (by kernel_rfl) (by kernel_rfl) (fun _ _ _ h => h) (Or.inl ⟨by rfl, ?hy6x6⟩) (by assumption) ?rest6x6; case hy6x6 => (intro w hSw; (try dsimp only at hSw); go_split_ands; go_simp; (try with_reducible rfl)))
   try simp only [Act.put, pq]
   (refine wpAnyH_take (i := 7) (v := ?v7x7) rfl (by kernel_rfl) (by kernel_rfl) (by kernel_rfl) (fun _ _ _ h => h) (Or.inl ⟨by rfl, ?hy7x7⟩) (by assumption) ?rest7x7; case hy7x7 => (intro w hSw; (try dsimp only at hSw); go_split_ands; go_simp; (try with_reducible rfl)))
   try simp only [Act.put, pq]
   refine wpAnyH_ready (rs := [2]) (by kernel_rfl) (by simp) ?_
   refine AllReadyH.cons rfl (fun K hK => ?_) AllReadyH.nil
   go_simp
   refine (q4 _ (Below.drew HWr.out)).mono ?_
   rintro e w4 ⟨rfl, b4⟩
   refine hK.out _ _ (keepR hHeld b4) (fun hHeld => ?_)
   clear hK K
   try simp only [Act.put, pq]
   have B4 : Below W.heap.size W w4 := (Below.drew HWr.out).trans (b4.mono (Below.drew HWr.out).size)
   have S4 : Sk w4 W.heap.size w2.heap.size (cfold m hs (l.take k)) := Sk.later (w := wr.drew) HS.out b4
   refine wpAnyH_ready (rs := [8]) (by kernel_rfl) (by simp) ?_
   refine AllReadyH.cons rfl (fun K hK => ?_) AllReadyH.nil
   go_simp
   refine (q5 _ B4 S4).mono ?_
   rintro e w5 ⟨q, g, rfl, s5, b5, HQ⟩
   refine hK.out _ _ ((b5.cell (by exact hb)).trans hHeld) (fun hHeld => ?_)
   clear hK K
   try simp only [Act.put, pq]
   have B5 : Below W.heap.size W w5 := B4.trans b5
   have hq : q.length ≤ 1000000000 := by have h1 := HLn.out; rw [HQ.out, List.length_append] at h1; omega
   have q6 := push_any w5 W.heap.size w2.heap.size q g s5 hq
   refine wpAnyH_ready (rs := [9]) (by kernel_rfl) (by simp) ?_
   refine AllReadyH.cons rfl (fun K hK => ?_) AllReadyH.nil
   go_simp
   refine q6.mono ?_
   rintro e w6 ⟨rfl, s6, b6⟩
   refine hK.out _ _ ((b6.cell (by exact hb)).trans hHeld) (fun hHeld => ?_)
   clear hK K
   try simp only [Act.put, pq]
   have HB6 : Hid (Below W.heap.size W w6) := B5.trans b6
   have HS6 : Hid (Sk w6 W.heap.size w2.heap.size (cfold m hs (l.take (k + 1)))) := by
    show Sk _ _ _ _
    rw [HC.out, HQ.out]; exact s6
   clear q4 q5 q6 s5 s6 b4 b5 b6 B4 B5 S4
   refine wpAnyH_done (by kernel_rfl) ?_ _
   clear hHeld
   go_wp2
   go_roundw
   case rel => exact ⟨k + 1, by omega, by go_num, HS6, HB6⟩
   case measure => simp [intOf]; omega
  ·have hlt' : ¬ (k : Int) < (l.length : Int) := by omega
   have hS := HS.out
   rw [List.take_of_length_le (show l.length ≤ k by omega)] at hS
   obtain ⟨ao6, L6, cap6, c6, o6⟩ := hS.sl
   have R1 : wr.heap[w.heap.size + 1]? = some (.cells (ee 0 (.slice none 0 0)) 149 (0, 0)) := (HWr.out.block _ (by omega)).trans HR1.out
   have JB : Below w.heap.size w wr := HB.out.trans (HWr.out.mono HB.out.size)
   have HJ : Hid _ := R1
   have HJB : Hid _ := JB
   have HO : Hid (Own wr W.heap.size wr.heap.size 9 (.slice ao6 L6 cap6) (ss (cfold m hs l))) := o6
   have hwk : IntKind.i64.wrap ((m : Int) + (l.length : Int)) = (m : Int) + (l.length : Int) := by rw [IntKind.wrap_i64]; omega
   have HZW : Hid (W.heap.size = w.heap.size + 2) := zW
   clear hS HS R0 R1 JB o6 zW HG'
   go_wp2_with (refine wpList_store_row rfl 149 _ _ rfl (w.heap.size + 1) (ee ((m : Int) + (l.length : Int)) (.slice ao6 L6 cap6)) rfl rfl 149 _ HJ.out (sizeEd _ _) rfl (oneEd _ rfl) ?_)
   have zz := HZW.out
   refine bodyPost_ret (res_row_tmp rfl _ _ (w.heap.size + 1) 149 (ee ((m : Int) + (l.length : Int)) (.slice ao6 L6 cap6)) (0, 0) _ rfl (setRow_heap _ _ _ _ _ (0, 0) HJ.out) Tryz.underlying149 rfl (sizeEd _ _)) rfl ⟨.slice ao6 L6 cap6, by rw [HN.out]; rfl, ?_, below_setRow HJB.out (by omega) _⟩
   rw [HN.out]
   exact (HO.out.setRow _ (by omega)).mono (by omega) (by simp)
theorem eroot_join : ∀ (q : List ByteArray) (y r : ByteArray), eroot (q ++ [y, r]) = eroot (q ++ [nodeH y r])
 | [], y, r => rfl
 | [a], y, r => rfl
 | a :: b :: q, y, r => by
  show eroot (a :: (b :: q ++ [y, r])) = eroot (a :: (b :: q ++ [nodeH y r]))
  rw [eroot_cons (by simp), eroot_cons (by simp), eroot_join (b :: q) y r]
def bN : Value → Nat
 | .bool true => 1
 | _ => 0
def skLen (w : World) (gs : Nat) : Nat := match w.cell? ⟨gs, 0, none⟩ with
 | some (.slice _ n _) => n
 | _ => 0
theorem Sk.len {w : World} {lo gs : Nat} {hs : List ByteArray} (h : Sk w lo gs hs) : skLen w gs = hs.length := by
 obtain ⟨v, h1, h2, h3⟩ := h
 obtain ⟨ao, cap, rfl⟩ := h3.len
 have : w.cell? ⟨gs, 0, none⟩ = some (.slice ao (ss hs).length cap) := row_at h2 0
 unfold skLen
 rw [this, ss_len]
set_option maxRecDepth 1000000 in
theorem pop_case (w : World) (lo gs : Nat) (q : List ByteArray) (h : Sk w lo gs q) (hl : q.length ≤ 1000000000) : ∃ (y : ByteArray) (mo : Bool) (q1 : List ByteArray), Hid ((mo = true ∧ q = q1 ++ [y]) ∨ (mo = false ∧ q = [] ∧ q1 = [])) ∧
  Calls Tryz.prog 162 #[.pointer (some ⟨gs, 0, none⟩)] w fun e w' => e = .returned (.tuple #[.string y, .bool mo]) ∧ Sk w' lo gs q1 ∧ Below lo w w' := by
 by_cases hn : q = []
 ·subst hn
  refine ⟨⟨#[]⟩, false, [], .inr ⟨rfl, rfl, rfl⟩, (pop_none w lo gs h).mono ?_⟩
  rintro e w' ⟨rfl, rfl⟩
  exact ⟨rfl, h, Below.refl _ _⟩
 ·have hq := (List.dropLast_concat_getLast hn).symm
  refine ⟨q.getLast hn, true, q.dropLast, .inl ⟨rfl, hq⟩, ?_⟩
  exact pop_some w lo gs q.dropLast (q.getLast hn) (by rw [← hq]; exact h) (by rw [List.length_dropLast]; omega)
def Inv (w wr : World) (gs : Nat) (r y : ByteArray) (mo : Bool) (t : ByteArray) : Prop :=
 ∃ q : List ByteArray, Sk wr w.heap.size gs q ∧ Below w.heap.size w wr ∧ q.length ≤ 1000000000 ∧
  (mo = true → t = eroot (q ++ [y, r]) ∧ (∀ s ∈ q, s.size = 32) ∧ y.size = 32 ∧ r.size = 32) ∧ (mo = false → t = r ∧ q = [])
set_option maxRecDepth 1000000 in
theorem rootE_impl (w : World) (n : Int) (v : Value) (hs : List ByteArray) (hG : Glob w) (h : Sl w v (ss hs)) (hl : hs.length ≤ 1000000000) (hz : ∀ s ∈ hs, s.size ≤ 1000000000000) :
  Calls Tryz.prog 119 #[.agg #[.int .i64 n, v]] w fun e w' => e = .returned (.string (rootE n hs)) ∧ Below w.heap.size w w' := by
 have hB : Below w.heap.size w (w.alloc (.cells #[.int .i64 n, v] 149)) := (Below.refl _ _).alloc (Nat.le_refl _) _
 have r0 : (w.alloc (.cells #[.int .i64 n, v] 149)).heap[w.heap.size]? = some (.cells (ee n v) 149 (0, 0)) := heap_alloc_new w _
 have q := ok_impl (w.alloc (.cells #[.int .i64 n, v] 149)) n v hs (h.later hB) (by omega)
 have q3 : ∀ X, Below w.heap.size w X → _ := fun X hX => texts_impl X v hs (h.later hX) hl hz
 have HG : Hid (∀ X, Below w.heap.size w X → Glob X) := fun X hX => hG.later hX
 have HR0 : Hid _ := r0
 have HB : Hid _ := hB
 obtain ⟨ao, cap, rfl, hcap⟩ := h.form
 simp only [ss_len] at *
 clear r0 hB h hz hG
 by_cases hok : okE n hs = false
 ·have HN : Hid (rootE n hs = ⟨#[]⟩) := by show _ = _; unfold rootE; rw [if_neg (by rw [hok]; simp)]
  rw [hok] at q
  clear hok q3
  go_enter Tryz.func119, Tryz.ntmps119
  go_wp2_with (refine wpList_load_row rfl 149 _ rfl w.heap.size rfl 149 (ee n (.slice ao hs.length cap)) (0, 0) _ HR0.out Tryz.underlying149 rfl (sizeEd _ _) ?_)
  refine q.mono ?_
  rintro e w1 ⟨rfl, b1⟩
  have HB1 : Hid (Below w.heap.size w w1) := HB.out.trans (b1.mono HB.out.size)
  clear q b1 HB HR0
  go_wp2
  go_ret
  exact ⟨by rw [HN.out]; rfl, HB1.out⟩
 have hok : okE n hs = true := by
  cases e : okE n hs with
  | false => exact absurd e hok
  | true => rfl
 have HN : Hid (rootE n hs = eroot hs) := by show _ = _; unfold rootE; rw [if_pos hok]
 obtain ⟨⟨i1, i2⟩, i3, i4⟩ := okE_iff.1 hok
 have H32 : Hid (∀ s ∈ hs, s.size = 32) := i4
 rw [hok] at q
 clear hok i3 i4
 go_enter Tryz.func119, Tryz.ntmps119
 go_wp2_with (refine wpList_load_row rfl 149 _ rfl w.heap.size rfl 149 (ee n (.slice ao hs.length cap)) (0, 0) _ HR0.out Tryz.underlying149 rfl (sizeEd _ _) ?_)
 refine q.mono ?_
 rintro e w1 ⟨rfl, b1⟩
 have HB1 : Hid (Below w.heap.size w w1) := HB.out.trans (b1.mono HB.out.size)
 have R0 : w1.heap[w.heap.size]? = some (.cells (ee n (.slice ao hs.length cap)) 149 (0, 0)) := rowKeep HR0.out b1
 have k1 : w1.cell? ⟨w.heap.size, 1, none⟩ = some (.slice ao hs.length cap) := row_at R0 1
 clear q b1 HB HR0 R0
 go_wp2_with fail
 refine (q3 _ HB1.out).mono ?_
 rintro e w2 ⟨v2, rfl, o2, b2⟩
 obtain ⟨ao2, L2, cap2, rfl, _, _⟩ := o2.form
 have B2 : Below w.heap.size w w2 := HB1.out.trans (b2.mono HB1.out.size)
 have HS3 : Hid (Sk (w2.alloc (.cells #[.slice ao2 L2 cap2] 190)) w.heap.size w2.heap.size hs) := ⟨_, B2.size, heap_alloc_new _ _, (o2.mono HB1.out.size (Nat.le_refl _)).alloc _⟩
 have HB3 : Hid (Below w.heap.size w (w2.alloc (.cells #[.slice ao2 L2 cap2] 190))) := B2.alloc B2.size _
 clear q3 o2 b2 B2 HB1 k1
 go_wp2_with fail
 by_cases hn : hs = []
 ·have HN' : Hid (rootE n hs = rootOf []) := by show _ = _; rw [HN.out, hn]; rfl
  have q4 := pop_none (w2.alloc (.cells #[.slice ao2 L2 cap2] 190)) w.heap.size w2.heap.size (by have := HS3.out; rw [hn] at this; exact this)
  have q5 := root_impl (w2.alloc (.cells #[.slice ao2 L2 cap2] 190)) (.slice none 0 0) [] (HG.out _ HB3.out) (Sl.nil _) (by simp) (fun s hs => by cases hs)
  clear hn HN H32
  refine q4.mono ?_
  rintro e w4 ⟨rfl, rfl⟩
  clear q4
  go_wp2_with fail
  refine q5.mono ?_
  rintro e w5 ⟨rfl, b5⟩
  have HB5 : Hid (Below w.heap.size w w5) := HB3.out.trans (b5.mono HB3.out.size)
  clear q5 b5 HS3 HB3
  go_wp2
  go_ret
  exact ⟨by rw [HN'.out]; rfl, HB5.out⟩
 obtain ⟨q, x, hq⟩ : ∃ q x, hs = q ++ [x] := ⟨hs.dropLast, hs.getLast hn, (List.dropLast_concat_getLast hn).symm⟩
 have hql : q.length + 1 ≤ 1000000000 := by rw [hq, List.length_append] at hl; simpa using hl
 have q4 := pop_some (w2.alloc (.cells #[.slice ao2 L2 cap2] 190)) w.heap.size w2.heap.size q x (by have := HS3.out; rw [hq] at this; exact this) (by omega)
 have HN' : Hid (rootE n hs = eroot (q ++ [x])) := by show _ = _; rw [HN.out, hq]
 have HQ : Hid (∀ s ∈ q, s.size = 32) := fun s hs' => H32.out s (by rw [hq]; simp [hs'])
 have hx : x.size = 32 := H32.out x (by rw [hq]; simp)
 clear hn HN H32 hq
 refine q4.mono ?_
 rintro e w4 ⟨rfl, s4, b4⟩
 have HB4 : Hid (Below w.heap.size w w4) := HB3.out.trans b4
 have HS4 : Hid (Sk w4 w.heap.size w2.heap.size q) := s4
 clear q4 s4 b4 HS3 HB3
 go_wp2_with fail
 -- the next one
 obtain ⟨y, mo, q1, HY, q5⟩ : ∃ (y : ByteArray) (mo : Bool) (q1 : List ByteArray), Hid ((mo = true ∧ q = q1 ++ [y]) ∨ (mo = false ∧ q = [] ∧ q1 = [])) ∧
   Calls Tryz.prog 162 #[.pointer (some ⟨w2.heap.size, 0, none⟩)] w4 fun e w' => e = .returned (.tuple #[.string y, .bool mo]) ∧ Sk w' w.heap.size w2.heap.size q1 ∧ Below w.heap.size w4 w' := pop_case w4 w.heap.size w2.heap.size q HS4.out (by omega)
 refine q5.mono ?_
 rintro e w5 ⟨rfl, s5, b5⟩
 have HI : Hid (Inv w w5 w2.heap.size x y mo (rootE n hs)) := by
  refine ⟨q1, s5, HB4.out.trans b5, ?_, ?_, ?_⟩
  ·rcases HY.out with ⟨_, hh⟩ | ⟨_, hh, rfl⟩
   ·have := congrArg List.length hh; simp at this; omega
   ·simp
  ·intro hm
   rcases HY.out with ⟨_, hh⟩ | ⟨hh, _⟩
   ·refine ⟨?_, fun s hs' => HQ.out s (by rw [hh]; simp [hs']), HQ.out y (by rw [hh]; simp), hx⟩
    rw [HN'.out, hh, List.append_assoc]; rfl
   ·rw [hm] at hh; cases hh
  ·intro hm
   rcases HY.out with ⟨hh, _⟩ | ⟨_, hh, hh2⟩
   ·rw [hm] at hh; cases hh
   ·rw [HN'.out, hh]; exact ⟨rfl, hh2⟩
 clear q5 s5 b5 HY HB4 HS4 HQ HN'
 go_wp2
 go_loopw [5, 7, 8] (fun a b c wr => ∃ (r y : ByteArray) (mo : Bool), a = .string r ∧ b = .string y ∧ c = .bool mo ∧ Hid (Inv w wr w2.heap.size r y mo (rootE n hs))) (fun _ _ c wr => skLen wr w2.heap.size + bN c)
 case atStart => exact ⟨x, y, mo, rfl, rfl, rfl, HI⟩
 case round =>
  clear HI hx
  obtain ⟨r, y, mo, rfl, rfl, rfl, HI⟩ := hrel
  cases mo
  ·have HN : Hid (r = rootE n hs) := by
    obtain ⟨q, h1, h2, h3, h4, h5⟩ := HI.out
    exact (h5 rfl).1.symm
   have HB5 : Hid (Below w.heap.size w wr) := by obtain ⟨q, h1, h2, _⟩ := HI.out; exact h2
   clear HI
   go_wp2
   go_ret
   exact ⟨by rw [HN.out]; rfl, HB5.out⟩
  ·obtain ⟨q, h1, h2, h3, h4, h5⟩ := HI.out
   obtain ⟨e1, e2, e3, e4⟩ := h4 rfl
   have HL : Hid (skLen wr w2.heap.size = q.length) := h1.len
   have q6 := node_impl wr y r (HG.out _ h2) (by omega) (by omega)
   have HS1 : Hid (Sk wr w.heap.size w2.heap.size q) := h1
   have HB1 : Hid (Below w.heap.size w wr) := h2
   have HE1 : Hid (rootE n hs = eroot (q ++ [y, r])) := e1
   have HE2 : Hid (∀ s ∈ q, s.size = 32) := e2
   clear HI h1 h2 h4 h5 e1 e2 e3 e4
   go_wp2_with fail
   refine q6.mono ?_
   rintro e w7 ⟨rfl, b7⟩
   have HS7 : Hid (Sk w7 w.heap.size w2.heap.size q) := HS1.out.later b7
   have HB7 : Hid (Below w.heap.size w w7) := HB1.out.trans (b7.mono HB1.out.size)
   clear q6 b7 HS1 HB1
   go_wp2_with fail
   obtain ⟨y', mo, q1, HY, q8⟩ : ∃ (y : ByteArray) (mo : Bool) (q1 : List ByteArray), Hid ((mo = true ∧ q = q1 ++ [y]) ∨ (mo = false ∧ q = [] ∧ q1 = [])) ∧
    Calls Tryz.prog 162 #[.pointer (some ⟨w2.heap.size, 0, none⟩)] w7 fun e w' => e = .returned (.tuple #[.string y, .bool mo]) ∧ Sk w' w.heap.size w2.heap.size q1 ∧ Below w.heap.size w7 w' := pop_case w7 w.heap.size w2.heap.size q HS7.out (by omega)
   refine q8.mono ?_
   rintro e w8 ⟨rfl, s8, b8⟩
   have HL8 : Hid (skLen w8 w2.heap.size = q1.length) := s8.len
   have HI : Hid (Inv w w8 w2.heap.size (nodeH y r) y' mo (rootE n hs)) := by
    refine ⟨q1, s8, HB7.out.trans b8, ?_, ?_, ?_⟩
    ·rcases HY.out with ⟨_, hh⟩ | ⟨_, hh, rfl⟩
     ·have := congrArg List.length hh; simp at this; omega
     ·simp
    ·intro hm
     rcases HY.out with ⟨_, hh⟩ | ⟨hh, _⟩
     ·refine ⟨?_, fun s hs' => HE2.out s (by rw [hh]; simp [hs']), HE2.out y' (by rw [hh]; simp), nodeH_size _ _⟩
      rw [HE1.out, eroot_join, hh, List.append_assoc]; rfl
     ·rw [hm] at hh; cases hh
    ·intro hm
     rcases HY.out with ⟨hh, _⟩ | ⟨_, hh, hh2⟩
     ·rw [hm] at hh; cases hh
     ·rw [HE1.out, hh]; exact ⟨rfl, hh2⟩
   have HM : Hid (q1.length + (if mo = true then 1 else 0) ≤ q.length) := by
    show _ ≤ _
    rcases HY.out with ⟨rfl, hh⟩ | ⟨rfl, hh, rfl⟩
    ·rw [hh]; simp
    ·simp
   clear q8 s8 b8 HY HB7 HS7 HE1 HE2
   go_wp2
   go_roundw
   case rel => exact ⟨nodeH y r, y', mo, rfl, rfl, rfl, HI⟩
   case measure =>
    have h1 := HM.out
    have h2 := HL.out
    have h3 := HL8.out
    cases mo <;> simp [bN] at h1 ⊢ <;> omega
end Go.Proofs.YtchonoonclllbaaGreatDoor.Ed
namespace Go.Proofs.YtchonoonclllbaaGreatDoor.Sr
open Go.RowKit Mem Laws Bytes Sha Tr He Lg
theorem getC_some {xs : List Int} {a : Nat} {h : Hd} {x : List ByteArray} {p : Int} (hb : Byt xs) (hg : getC xs (a : Int) = (h, x, p, true)) : ∃ q : Nat, p = (q : Int) ∧ a < q ∧ q ≤ xs.length ∧ 1 ≤ x.length ∧ x.length ≤ 200 := by
 obtain ⟨q, rfl, hq, hqx, _, h1, h2, _⟩ := put_get hb hg
 have := put_pos h x
 exact ⟨q, rfl, by omega, hqx, h1, h2⟩
theorem far_len {T x : List ByteArray} {m : Nat} (hm : m ≤ T.length) (hx : T.length - m < x.length) : ¬ (T.take m ++ x) <+: T := by
 intro h
 have := h.length_le
 rw [List.length_append, List.length_take] at this
 omega
theorem allE_take {T x : List ByteArray} {m : Nat} (h2 : T.length ≤ 200) (hm : m ≤ T.length) (hx : x <+: T.drop m) : Ed.allE (m : Int) (Ed.edge (T.take m)) x = (((m + x.length : Nat) : Int), Ed.edge (T.take (m + x.length)), true) := by
 obtain ⟨e1, e2⟩ := take_more hm hx
 have hl : (T.take m).length = m := by rw [List.length_take]; omega
 have := Ed.allE_edge (l := T.take m) (r := x) (by omega)
 rw [hl, e1, List.length_take] at this
 rw [this]
 congr 2
 omega
set_option maxRecDepth 1000000 in
theorem make_impl (w : World) (v vt : Value) (xs : List Int) (T : List ByteArray) (hG : Glob w) (hN : NoC w) (hs : Sl w v (bs xs)) (hb : Byt xs) (hx : xs.length ≤ 1000000000000) (ht : Sl w vt (ss T)) (h2 : T.length ≤ 200) :
  Calls Tryz.prog 70 #[v, vt] w fun e w' => e = .returned (.bool (fin12 xs T xs.length 0 [] (headOf []))) ∧ Below w.heap.size w w' := by
 obtain ⟨R, hR⟩ : ∃ R, fin12 xs T xs.length 0 [] (headOf []) = R := ⟨_, rfl⟩
 have HF0 : Hid (xs.length - 0 ≤ xs.length ∧ fin12 xs T xs.length 0 (T.take 0) (headOf []) = R) := ⟨by omega, hR⟩
 rw [hR]
 have HS : Hid (Sl w v (bs xs)) := hs
 have HT : Hid (Sl w vt (ss T)) := ht
 have HBY : Hid (Byt xs) := hb
 have HG : Hid (Glob w) := hG
 have HN : Hid (NoC w) := hN
 obtain ⟨ao0, cap0, rfl, hc0⟩ := hs.form
 obtain ⟨ao1, cap1, rfl, hc1, hn1, _⟩ := ht
 rw [ss_len] at *
 rw [bs_len] at *
 clear hs hb hR hG hN
 have B0 : Hid (Below w.heap.size w w) := Below.refl _ _
 obtain ⟨W1, HW1, b1, y1, hS1, r_made1⟩ := Ke.l1 w #[.int .i64 0, .slice none 0 0] 149
 have z1 := b1.size
 have B1 := Ke.b B0 b1
 by_cases hT0 : 0 < T.length
 ·obtain ⟨bT, offT, capT, he, hcapT⟩ := slForm HT.out (by rw [ss_len]; omega)
  simp only [Value.slice.injEq] at he
  obtain ⟨rfl, -, rfl⟩ := he
  clear hcapT hn1
  have qg : ∀ W, Below w.heap.size w W → ∀ a : Nat, a ≤ xs.length → _ := fun W hW a ha => getc_land W _ xs (a : Int) (HG.out.later hW) (HN.out.later hW) (HS.out.later hW) HBY.out hx (by omega) (by omega)
  go_enter Tryz.func70, Tryz.ntmps70
  go_wp2_with fail
  rw [HW1.out]
  go_loopw [6] (fun iv wr => ∃ (a m f : Nat) (hd : Hd) (ao : Option Addr) (L cap : Nat), a ≤ xs.length ∧ m ≤ T.length ∧ iv = .int .i64 (a : Int) ∧ Hid (xs.length - a ≤ f ∧ fin12 xs T f a (T.take m) hd = R) ∧ Hid (wr.heap[w.heap.size]? = some (.cells #[.int .i64 (m : Int), .slice ao L cap] 149 (0, 0))) ∧ Hid (Own wr W1.heap.size wr.heap.size 9 (.slice ao L cap) (ss (Ed.edge (T.take m)))) ∧ Hid (Below w.heap.size w wr) ∧ W1.heap.size ≤ wr.heap.size) (fun iv _ => xs.length - (intOf iv).toNat)
  case atStart => exact ⟨0, 0, xs.length, headOf [], none, 0, 0, Nat.zero_le _, Nat.zero_le _, rfl, HF0, r_made1, by show Own _ _ _ _ _ _; rw [List.take_zero, Ed.edge_nil]; exact ownNil _ _ _ _, B1, Nat.le_refl _⟩
  case round =>
   obtain ⟨a, m, f, hd, ao_v, L_v, cap_v, ha, hm, rfl, HF, r_made2, o_v2, B2, z2⟩ := hrel
   obtain ⟨W2, hW2⟩ : ∃ X, X = wr := ⟨_, rfl⟩
   subst hW2
   clear HF0 r_made1
   have c_made2 := Ke.c r_made2
   by_cases hlt : a < xs.length
   ·have hlt2 : (a : Int) < (xs.length : Int) := by omega
    have q2 := qg W2 B2.out a ha
    obtain ⟨h, x, p, ok, hg⟩ : ∃ h x p ok, getC xs (a : Int) = (h, x, p, ok) := ⟨_, _, _, _, rfl⟩
    unfold GotC at q2
    rw [hg] at q2
    simp only at q2
    have hx2 : x.length ≤ 200 := by
     have h9 := getC_len xs (a : Int)
     rw [hg] at h9
     exact h9
    have HGC : Hid (getC xs (a : Int) = (h, x, p, ok)) := hg
    have HXZ : Hid (∀ s ∈ x, s.size ≤ 1000000000) := getC_size HBY.out hg
    clear hg
    go_wp2_with fail
    refine (q2).mono ?_
    rintro e W3 ⟨v_t, rfl, o_t3, b3⟩
    obtain ⟨ao_t, L_t, cap_t, rfl, hL_t, hM_t⟩ := o_t3.form
    have o_t3 : Hid (Own W3 W2.heap.size W3.heap.size 9 (.slice ao_t L_t cap_t) (ss x)) := o_t3
    clear hL_t hM_t
    have z3 := b3.size
    have B3 := Ke.b B2 b3
    have r_made3 := Ke.r r_made2 b3
    have o_v3 := Ke.o o_v2 b3
    have c_made3 := Ke.c r_made3
    clear r_made2 c_made2 o_v2
    have hLt : L_t ≤ x.length ∧ x.length ≤ L_t := by obtain ⟨a9, L9, c9, he, h1, h2⟩ := Mem.Own.form o_t3.out; injection he with _ he2 _; rw [ss_len] at h1 h2; omega
    clear q2
    have a_made3 := Ke.a r_made3
    obtain ⟨W4, HW4, b4, y4, hS4, r_h4⟩ := Ke.l1 W3 #[.int .i64 h.n, .string h.r] 26
    have z4 := b4.size
    have B4 := Ke.b B3 b4
    have r_made4 := Ke.r r_made3 b4
    have o_v4 := Ke.o o_v3 b4
    have o_t4 := Ke.o o_t3 b4
    have c_made4 := Ke.c r_made4
    clear r_made3 c_made3 o_v3 o_t3
    have hmT : (m : Int) ≤ (T.length : Int) := by omega
    by_cases hcm : cap1 = m
    ·cases ok
     ·have HO : Hid (R = false) := by show _ = _; rw [← HF.out.2]; exact fin_no hlt HF.out.1 (by rw [HGC.out])
      go_wp2
      go_ret
      exact ⟨by rw [HO.out]; rfl, (by rw [HW4.out]; exact B4.out)⟩
     ·obtain ⟨q, rfl, hq1, hq2, hx1, _⟩ := getC_some HBY.out HGC.out
      have hgt : T.length - m < x.length := by omega
      have dt : decide ((0 : Int) < (L_t : Int)) = true := decide_eq_true (by omega)
      have HO : Hid (R = false) := by show _ = _; rw [← HF.out.2]; exact fin_far hlt HF.out.1 (by rw [HGC.out]; exact far_len hm hgt)
      go_wp2
      go_ret
      exact ⟨by rw [HO.out]; rfl, (by rw [HW4.out]; exact B4.out)⟩
    ·obtain ⟨d, hd0⟩ : ∃ d, T.length - m = d := ⟨_, rfl⟩
     have hdm : d + m = T.length ∧ d ≤ T.length := by omega
     cases ok
     ·have HO : Hid (R = false) := by show _ = _; rw [← HF.out.2]; exact fin_no hlt HF.out.1 (by rw [HGC.out])
      go_wp2
      go_ret
      exact ⟨by rw [HO.out]; rfl, (by rw [HW4.out]; exact B4.out)⟩
     ·obtain ⟨q, rfl, hq1, hq2, hx1, _⟩ := getC_some HBY.out HGC.out
      by_cases hgt : T.length - m < x.length
      ·have dt : decide ((d : Int) < (L_t : Int)) = true := decide_eq_true (by omega)
       have HO : Hid (R = false) := by show _ = _; rw [← HF.out.2]; exact fin_far hlt HF.out.1 (by rw [HGC.out]; exact far_len hm hgt)
       go_wp2
       go_ret
       exact ⟨by rw [HO.out]; rfl, (by rw [HW4.out]; exact B4.out)⟩
      ·have dt : decide ((d : Int) < (L_t : Int)) = false := decide_eq_false (by omega)
       have dl : (L_t : Int) ≤ (cap1 : Int) - (m : Int) := by omega
       have dl2 : L_t ≤ cap1 - m := by omega
       have dl3 : (L_t : Int) ≤ ((cap1 - m : Nat) : Int) := by omega
       have hLx : L_t = x.length := by omega
       have HR2 : Hid (∀ W, Below w.heap.size w W → Sl W (.slice (some ⟨bT, offT + m, none⟩) L_t (cap1 - m)) (ss ((T.drop m).take x.length))) := by
        intro W hW
        have s1 := slBack (HT.out.later hW) m (by rw [ss_len]; omega)
        have s2 := Sl.front s1 L_t (by rw [List.length_drop, ss_len]; omega)
        have e : ss ((T.drop m).take x.length) = ((ss T).drop m).take L_t := by unfold ss; rw [List.map_take, List.map_drop, hLx]
        rw [e]
        exact s2
       clear hLx
       obtain ⟨t, hte⟩ : ∃ t : Bool, t = true ↔ x = (T.drop m).take x.length := ⟨decide (x = (T.drop m).take x.length), by simp⟩
       have HTE : Hid (t = true ↔ x = (T.drop m).take x.length) := hte
       clear hte
       go_wp2_with fail
       rw [HW4.out]
       clear a_made3
       refine (Cl.same_impl W4 _ _ x ((T.drop m).take x.length) t HTE.out o_t4.out.sl (HR2.out _ B4.out) (by omega) (by rw [List.length_take]; omega)).mono ?_
       rintro e W5 ⟨rfl, h5, _⟩
       have b5 : Below W4.heap.size W4 W5 := h5 _
       clear h5
       have z5 := b5.size
       have B5 := Ke.b B4 b5
       have r_made5 := Ke.r r_made4 b5
       have r_h5 := Ke.r r_h4 b5
       have o_v5 := Ke.o o_v4 b5
       have o_t5 := Ke.o o_t4 b5
       have c_made5 := Ke.c r_made5
       clear r_made4 c_made4 r_h4 o_v4 o_t4
       cases t
       ·have HO : Hid (R = false) := by
         show _ = _
         rw [← HF.out.2]
         refine fin_far hlt HF.out.1 ?_
         rw [HGC.out]
         show ¬ (T.take m ++ x) <+: T
         intro h9
         have h8 := (pre_eq (by rw [List.length_drop]; omega)).2 ((pre_take hm).1 h9)
         exact absurd (HTE.out.2 h8) (by simp)
        go_wp2
        go_ret
        exact ⟨by rw [HO.out]; rfl, B5.out⟩
       ·have hpre : x <+: T.drop m := (pre_eq (by rw [List.length_drop]; omega)).1 (HTE.out.1 rfl)
        obtain ⟨e5, e6⟩ := take_more hm hpre
        have e7 := allE_take h2 hm hpre
        have e8 := headOf_edge h2 e6
        obtain ⟨m2, hm2⟩ : ∃ m2, m + x.length = m2 := ⟨_, rfl⟩
        rw [hm2] at e5 e6 e7 e8
        obtain ⟨D, hD⟩ : ∃ D, Ed.rootE (m2 : Int) (Ed.edge (T.take m2)) = D := ⟨_, rfl⟩
        have edl : ∀ k, (Ed.edge (T.take k)).length ≤ 1000000 := fun k => by
         rw [Ed.edge_len]
         have h9 : (T.take k).length < 256 := by rw [List.length_take]; omega
         have := Ed.popc_le ⟨(T.take k).length, h9⟩
         simp only at this
         omega
        have qa : ∀ W v1 v2, Glob W → Sl W v1 (ss (Ed.edge (T.take m))) → Sl W v2 (ss x) → _ := fun W v1 v2 g1 h1 h3 => Ed.all_impl W (m : Int) v1 v2 (Ed.edge (T.take m)) x g1 h1 h3 (by have := edl m; omega) (fun s hs => by have := Ed.edge_sizes _ s hs; omega) (by omega) (fun s hs => by have := HXZ.out s hs; omega)
        simp only [e7] at qa
        have qr : ∀ W v1, Glob W → Sl W v1 (ss (Ed.edge (T.take m2))) → _ := fun W v1 g1 h1 => Ed.rootE_impl W (m2 : Int) v1 (Ed.edge (T.take m2)) g1 h1 (by have := edl m2; omega) (fun s hs => by have := Ed.edge_sizes _ s hs; omega)
        simp only [hD] at qr
        rw [hD] at e8
        have HH : Hid (headOf (T.take m ++ x) = ⟨(m2 : Int), D⟩) := by show _ = _; rw [e5]; exact e8
        have HE5 : Hid (T.take m ++ x = T.take m2) := e5
        have hm2T : m2 ≤ T.length := e6
        obtain ⟨E, hE⟩ : ∃ E, eqH h ⟨(m2 : Int), D⟩ = E := ⟨_, rfl⟩
        have e1 : ∀ W, (binOp .neq 26 (.agg #[.int .i64 h.n, .string h.r]) (.agg #[.int .i64 (m2 : Int), .string D])).run Tryz.prog W = .ok (.bool (!E)) W := fun W => by have h9 := neqH W h ⟨(m2 : Int), D⟩; rw [hE] at h9; exact h9
        have e2 : ∀ W op y z xs ys, _ := fun W op y z xs ys => grdH W op y z xs ys
        have HE : Hid (eqH h ⟨(m2 : Int), D⟩ = E) := hE
        clear hE hD e5 e6 e7 e8 edl hpre hm2 HTE HR2
        go_wp2_with fail
        refine (qa W5 _ _ (HG.out.later B5.out) o_v5.out.sl o_t5.out.sl).mono ?_
        rintro e W6 ⟨v_e, rfl, o_e6, b6⟩
        obtain ⟨ao_e, L_e, cap_e, rfl, hL_e, hM_e⟩ := o_e6.form
        have o_e6 : Hid (Own W6 W5.heap.size W6.heap.size 9 (.slice ao_e L_e cap_e) (ss (Ed.edge (T.take m2)))) := o_e6
        clear hL_e hM_e
        have z6 := b6.size
        have B6 := Ke.b B5 b6
        have r_made6 := Ke.r r_made5 b6
        have r_h6 := Ke.r r_h5 b6
        clear r_made5 c_made5 r_h5 o_v5 o_t5
        go_wp2_with (refine wpl_partG rfl 149 _ _ rfl (w.heap.size) 0 (Ed.ee (m2 : Int) (.slice ao_e L_e cap_e)) rfl rfl [.int .i64 (m : Int), .slice ao_v L_v cap_v] 149 r_made6.out (Nat.le_of_ble_eq_true rfl) (Ed.sizeEd _ _) (Ed.oneEd _ rfl) [.int .i64 (m2 : Int), .slice ao_e L_e cap_e] rfl ?_)
        intro W7 r_made7 g7
        have r_made7 := Ke.h r_made7
        have z7 := g7.size
        have B7 := Ke.i B6 g7
        have r_h7 := Ke.s r_h6 g7
        have o_e7 := Ke.t o_e6 r_made6 g7
        have c_made7 := Ke.c r_made7
        have c_h7 := Ke.c r_h7
        clear r_h6 o_e6
        clear r_made6
        clear g7
        go_wp2_with fail
        refine wp_region_held_drew (S := fun w' => w'.cell? ⟨W3.heap.size, 0, none⟩ = some (.int .i64 h.n) ∧ w'.cell? ⟨W3.heap.size, 1, none⟩ = some (.string h.r) ∧ w'.cell? ⟨w.heap.size, 0, none⟩ = some (.int .i64 (m2 : Int)) ∧ w'.cell? ⟨w.heap.size, 1, none⟩ = some (.slice ao_e L_e cap_e)) (by kernel_rfl) ⟨(c_h7 0), (c_h7 1), (c_made7 0), (c_made7 1)⟩ (fun hHeld => ?_)
        refine Ke.q 0 ?_; try simp only [Act.put, pq]
        refine Ke.q 1 ?_; try simp only [Act.put, pq]
        refine Ke.q 2 ?_; try simp only [Act.put, pq]
        refine Ke.q 3 ?_; try simp only [Act.put, pq]
        refine Ke.z 4 rfl (fun K hK => ?_)
        go_simp
        refine (qr W7.drew _ (HG.out.later (Below.drew B7.out)) (Own.sl (w := W7) o_e7.out)).mono ?_
        rintro e W8 ⟨rfl, b8⟩
        have b8 : Below W7.heap.size W7 W8 := (Below.drew (Below.refl _ _)).trans b8
        refine hK.out _ _ ⟨(keepR (W := W7) hHeld.1 b8), (keepR (W := W7) hHeld.2.1 b8), (keepR (W := W7) hHeld.2.2.1 b8), (keepR (W := W7) hHeld.2.2.2 b8)⟩ (fun hHeld => ?_)
        clear hK K
        try simp only [Act.put, pq]
        have z8 := b8.size
        have B8 := Ke.b B7 b8
        have r_made8 := Ke.r r_made7 b8
        have o_e8 := Ke.o o_e7 b8
        clear r_made7 c_made7 r_h7 c_h7 o_e7
        refine Ke.q 5 ?_; try simp only [Act.put, pq]
        refine Ke.q 6 ?_; try simp only [Act.put, pq]
        refine wpAnyH_done (by kernel_rfl) ?_ _
        clear hHeld
        cases E
        ·have HO : Hid (R = false) := by show _ = _; rw [← HF.out.2]; exact fin_head hlt HF.out.1 (by rw [HGC.out, HH.out]; exact HE.out)
         go_wp2
         go_ret
         exact ⟨by rw [HO.out]; rfl, B8.out⟩
        ·obtain ⟨f', hf1, hf2⟩ := fin_go (T := T) (l := T.take m) (hd := hd) hlt HF.out.1 HGC.out hq1 (by rw [HE5.out, List.length_take]; omega) (by rw [HH.out]; exact HE.out)
         have HF9 : Hid (xs.length - q ≤ f' ∧ fin12 xs T f' q (T.take m2) h = R) := ⟨hf1, by rw [← HE5.out, ← hf2]; exact HF.out.2⟩
         clear hf1 hf2
         go_wp2
         go_roundw
         case rel => exact ⟨q, m2, f', h, ao_e, L_e, cap_e, hq2, hm2T, rfl, HF9, r_made8, Own.mono o_e8.out (by omega) (by omega), B8, by omega⟩
         case measure => simp [intOf]; omega
   ·have hlt2 : ¬ (a : Int) < (xs.length : Int) := by omega
    have HO : Hid (R = ((m : Int) == (T.length : Int))) := by
     show _ = _
     rw [← HF.out.2, fin_end hlt]
     by_cases h9 : m = T.length
     ·have h8 : T.take m = T := List.take_of_length_le (by omega)
      have h7 : (m : Int) = (T.length : Int) := by omega
      simp [h8, h7]
     ·have h8 : ¬ T.take m = T := fun e9 => by have := congrArg List.length e9; rw [List.length_take] at this; omega
      have h7 : ¬ (m : Int) = (T.length : Int) := by omega
      simp [h8, h7]
    go_wp2
    go_ret
    exact ⟨by rw [HO.out]; rfl, B2.out⟩
 ·have qg : ∀ W, Below w.heap.size w W → ∀ a : Nat, a ≤ xs.length → _ := fun W hW a ha => getc_land W _ xs (a : Int) (HG.out.later hW) (HN.out.later hW) (HS.out.later hW) HBY.out hx (by omega) (by omega)
  go_enter Tryz.func70, Tryz.ntmps70
  go_wp2_with fail
  rw [HW1.out]
  go_loopw [6] (fun iv wr => ∃ (a m f : Nat) (hd : Hd) (ao : Option Addr) (L cap : Nat), a ≤ xs.length ∧ m ≤ T.length ∧ iv = .int .i64 (a : Int) ∧ Hid (xs.length - a ≤ f ∧ fin12 xs T f a (T.take m) hd = R) ∧ Hid (wr.heap[w.heap.size]? = some (.cells #[.int .i64 (m : Int), .slice ao L cap] 149 (0, 0))) ∧ Hid (Own wr W1.heap.size wr.heap.size 9 (.slice ao L cap) (ss (Ed.edge (T.take m)))) ∧ Hid (Below w.heap.size w wr) ∧ W1.heap.size ≤ wr.heap.size) (fun iv _ => xs.length - (intOf iv).toNat)
  case atStart => exact ⟨0, 0, xs.length, headOf [], none, 0, 0, Nat.zero_le _, Nat.zero_le _, rfl, HF0, r_made1, by show Own _ _ _ _ _ _; rw [List.take_zero, Ed.edge_nil]; exact ownNil _ _ _ _, B1, Nat.le_refl _⟩
  case round =>
   obtain ⟨a, m, f, hd, ao_v, L_v, cap_v, ha, hm, rfl, HF, r_made2, o_v2, B2, z2⟩ := hrel
   obtain ⟨W2, hW2⟩ : ∃ X, X = wr := ⟨_, rfl⟩
   subst hW2
   clear HF0 r_made1
   have c_made2 := Ke.c r_made2
   by_cases hlt : a < xs.length
   ·have hlt2 : (a : Int) < (xs.length : Int) := by omega
    have q2 := qg W2 B2.out a ha
    obtain ⟨h, x, p, ok, hg⟩ : ∃ h x p ok, getC xs (a : Int) = (h, x, p, ok) := ⟨_, _, _, _, rfl⟩
    unfold GotC at q2
    rw [hg] at q2
    simp only at q2
    have hx2 : x.length ≤ 200 := by
     have h9 := getC_len xs (a : Int)
     rw [hg] at h9
     exact h9
    have HGC : Hid (getC xs (a : Int) = (h, x, p, ok)) := hg
    have HXZ : Hid (∀ s ∈ x, s.size ≤ 1000000000) := getC_size HBY.out hg
    clear hg
    go_wp2_with fail
    refine (q2).mono ?_
    rintro e W3 ⟨v_t, rfl, o_t3, b3⟩
    obtain ⟨ao_t, L_t, cap_t, rfl, hL_t, hM_t⟩ := o_t3.form
    have o_t3 : Hid (Own W3 W2.heap.size W3.heap.size 9 (.slice ao_t L_t cap_t) (ss x)) := o_t3
    clear hL_t hM_t
    have z3 := b3.size
    have B3 := Ke.b B2 b3
    have r_made3 := Ke.r r_made2 b3
    have o_v3 := Ke.o o_v2 b3
    have c_made3 := Ke.c r_made3
    clear r_made2 c_made2 o_v2
    have hLt : L_t ≤ x.length ∧ x.length ≤ L_t := by obtain ⟨a9, L9, c9, he, h1, h2⟩ := Mem.Own.form o_t3.out; injection he with _ he2 _; rw [ss_len] at h1 h2; omega
    clear q2
    have a_made3 := Ke.a r_made3
    obtain ⟨W4, HW4, b4, y4, hS4, r_h4⟩ := Ke.l1 W3 #[.int .i64 h.n, .string h.r] 26
    have z4 := b4.size
    have B4 := Ke.b B3 b4
    have r_made4 := Ke.r r_made3 b4
    have o_v4 := Ke.o o_v3 b4
    have o_t4 := Ke.o o_t3 b4
    have c_made4 := Ke.c r_made4
    clear r_made3 c_made3 o_v3 o_t3
    have hmT : (m : Int) ≤ (T.length : Int) := by omega
    obtain rfl : m = 0 := by omega
    rcases ao1 with _ | ad
    ·obtain rfl := hn1 rfl
     cases ok
     ·have HO : Hid (R = false) := by show _ = _; rw [← HF.out.2]; exact fin_no hlt HF.out.1 (by rw [HGC.out])
      go_wp2
      go_ret
      exact ⟨by rw [HO.out]; rfl, (by rw [HW4.out]; exact B4.out)⟩
     ·obtain ⟨q, rfl, hq1, hq2, hx1, _⟩ := getC_some HBY.out HGC.out
      have hgt : T.length - 0 < x.length := by omega
      have dt : decide ((0 : Int) < (L_t : Int)) = true := decide_eq_true (by omega)
      have HO : Hid (R = false) := by show _ = _; rw [← HF.out.2]; exact fin_far hlt HF.out.1 (by rw [HGC.out]; exact far_len hm hgt)
      go_wp2
      go_ret
      exact ⟨by rw [HO.out]; rfl, (by rw [HW4.out]; exact B4.out)⟩
    ·by_cases hcm : cap1 = 0
     ·subst hcm
      cases ok
      ·have HO : Hid (R = false) := by show _ = _; rw [← HF.out.2]; exact fin_no hlt HF.out.1 (by rw [HGC.out])
       go_wp2
       go_ret
       exact ⟨by rw [HO.out]; rfl, (by rw [HW4.out]; exact B4.out)⟩
      ·obtain ⟨q, rfl, hq1, hq2, hx1, _⟩ := getC_some HBY.out HGC.out
       have hgt : T.length - 0 < x.length := by omega
       have dt : decide ((0 : Int) < (L_t : Int)) = true := decide_eq_true (by omega)
       have HO : Hid (R = false) := by show _ = _; rw [← HF.out.2]; exact fin_far hlt HF.out.1 (by rw [HGC.out]; exact far_len hm hgt)
       go_wp2
       go_ret
       exact ⟨by rw [HO.out]; rfl, (by rw [HW4.out]; exact B4.out)⟩
     ·cases ok
      ·have HO : Hid (R = false) := by show _ = _; rw [← HF.out.2]; exact fin_no hlt HF.out.1 (by rw [HGC.out])
       go_wp2
       go_ret
       exact ⟨by rw [HO.out]; rfl, (by rw [HW4.out]; exact B4.out)⟩
      ·obtain ⟨q, rfl, hq1, hq2, hx1, _⟩ := getC_some HBY.out HGC.out
       have hgt : T.length - 0 < x.length := by omega
       have dt : decide ((0 : Int) < (L_t : Int)) = true := decide_eq_true (by omega)
       have HO : Hid (R = false) := by show _ = _; rw [← HF.out.2]; exact fin_far hlt HF.out.1 (by rw [HGC.out]; exact far_len hm hgt)
       go_wp2
       go_ret
       exact ⟨by rw [HO.out]; rfl, (by rw [HW4.out]; exact B4.out)⟩
   ·have hlt2 : ¬ (a : Int) < (xs.length : Int) := by omega
    have HO : Hid (R = ((m : Int) == (T.length : Int))) := by
     show _ = _
     rw [← HF.out.2, fin_end hlt]
     by_cases h9 : m = T.length
     ·have h8 : T.take m = T := List.take_of_length_le (by omega)
      have h7 : (m : Int) = (T.length : Int) := by omega
      simp [h8, h7]
     ·have h8 : ¬ T.take m = T := fun e9 => by have := congrArg List.length e9; rw [List.length_take] at this; omega
      have h7 : ¬ (m : Int) = (T.length : Int) := by omega
      simp [h8, h7]
    go_wp2
    go_ret
    exact ⟨by rw [HO.out]; rfl, B2.out⟩
end Go.Proofs.YtchonoonclllbaaGreatDoor.Sr
namespace Go.Proofs.YtchonoonclllbaaGreatDoor.He
open Go.RowKit Mem Laws Bytes Sha Tr
set_option maxRecDepth 1000000 in
theorem headOf_impl (w : World) (v : Value) (l : List ByteArray) (hG : Glob w) (h : Sl w v (ss l)) (hl : l.length ≤ 1000000000000) (hz : ∀ s ∈ l, s.size ≤ 10000000000) :
  Calls Tryz.prog 20 #[v] w fun e w' => e = .returned (.agg #[.int .i64 (headOf l).n, .string (headOf l).r]) ∧ Below w.heap.size w w' := by
 have HR : Hid ((w.alloc (.cells #[.int .i64 0, .string ⟨#[]⟩] 26)).heap[w.heap.size]? = some (.cells (hc hd0) 26 (0, 0))) := heap_alloc_new w _
 have HB : Hid (Below w.heap.size w (w.alloc (.cells #[.int .i64 0, .string ⟨#[]⟩] 26))) := (Below.refl _ _).alloc (Nat.le_refl _) _
 by_cases h2 : l.length ≤ 200
 ·have q := root_impl (w.alloc (.cells #[.int .i64 0, .string ⟨#[]⟩] 26)) v l (hG.later HB.out) (h.later HB.out) (by omega) hz
  rw [show rootOf l = root l from if_pos h2] at q
  obtain ⟨M, hM⟩ : ∃ M, headOf l = M := ⟨_, rfl⟩
  have hM2 : M = ⟨l.length, root l⟩ := by rw [← hM]; unfold headOf; rw [if_pos h2]
  obtain ⟨ao, cap, rfl, hcap, _⟩ := h
  have d2 : ¬ (200 : Int) < (l.length : Int) := by omega
  obtain ⟨x, hx⟩ : ∃ x, root l = x := ⟨_, rfl⟩
  rw [hx] at q hM2
  rw [hM, hM2]
  rw [ss_len] at *
  clear hx hM hM2 hz
  go_enter Tryz.func20, Tryz.ntmps20
  go_wp2_with fail
  refine q.mono ?_
  rintro e w1 ⟨rfl, b1⟩
  have R1 := rowKeep HR.out b1
  have B1 : Below w.heap.size w w1 := HB.out.trans (b1.mono HB.out.size)
  clear q HR b1
  go_wp2_with (refine wpList_store_row rfl 26 _ _ rfl w.heap.size (hc (⟨(l.length : Int), x⟩ : Hd)) rfl rfl 26 _ R1 (sizeH (⟨(l.length : Int), x⟩ : Hd)) rfl (oneH (⟨(l.length : Int), x⟩ : Hd)) ?_)
  exact bodyPost_ret (v := .agg (hc ⟨(l.length : Int), x⟩)) (results_cell_row rfl _ _ w.heap.size 26 _ (0, 0) _ rfl (setRow_heap _ _ _ _ _ (0, 0) R1) Tryz.underlying26 rfl (sizeH _)) rfl ⟨rfl, below_setRow B1 (Nat.le_refl _) _⟩
 ·have d2 : (200 : Int) < (l.length : Int) := by omega
  have hM : headOf l = hd0 := by unfold headOf; rw [if_neg h2]
  rw [hM]
  obtain ⟨ao, cap, rfl, hcap, _⟩ := h
  rw [ss_len]
  clear hz hM
  go_enter Tryz.func20, Tryz.ntmps20
  go_wp2_with (refine wpList_store_row rfl 26 _ _ rfl w.heap.size (hc hd0) rfl rfl 26 _ HR.out (sizeH hd0) rfl (oneH hd0) ?_)
  exact bodyPost_ret (v := .agg (hc hd0)) (results_cell_row rfl _ _ w.heap.size 26 _ (0, 0) _ rfl (setRow_heap _ _ _ _ _ (0, 0) HR.out) Tryz.underlying26 rfl (sizeH hd0)) rfl ⟨rfl, below_setRow HB.out (Nat.le_refl _) _⟩
end Go.Proofs.YtchonoonclllbaaGreatDoor.He
