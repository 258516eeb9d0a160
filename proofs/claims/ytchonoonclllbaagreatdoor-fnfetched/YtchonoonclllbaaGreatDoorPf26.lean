/- Texts in one: EsD, EsE, Cl2, SrE. -/
import Derived.Test.YtchonoonclllbaaGreatDoorPf25
import Derived.BigQuiet
namespace Go.Proofs.YtchonoonclllbaaGreatDoor.Ed
open Go.RowKit Go.Proofs.YtchonoonclllbaaGreatDoor.Mem Go.Proofs.YtchonoonclllbaaGreatDoor.Laws Go.Proofs.YtchonoonclllbaaGreatDoor.Bytes Go.Proofs.YtchonoonclllbaaGreatDoor.Sha Go.Proofs.YtchonoonclllbaaGreatDoor.Tr
set_option linter.unusedVariables false
set_option linter.unusedSimpArgs false
set_option maxRecDepth 1000000 in
set_option maxHeartbeats 4000000 in
theorem all_impl (w : World) (n : Int) (v vl : Value) (hs l : List ByteArray) (hG : Glob w) (h : Sl w v (ss hs)) (h2 : Sl w vl (ss l)) (hl : hs.length ≤ 1000000000) (hz : ∀ s ∈ hs, s.size ≤ 1000000000000) (hl2 : l.length ≤ 1000000000) (hz2 : ∀ s ∈ l, s.size ≤ 10000000000) :
  Calls Tryz.prog 118 #[.agg #[.int .i64 n, v], vl] w fun e w' => ∃ v', e = .returned (.tuple #[.agg #[.int .i64 (allE n hs l).1, v'], .bool (allE n hs l).2.2]) ∧ Own w' w.heap.size w'.heap.size 9 v' (ss (allE n hs l).2.1) ∧ Below w.heap.size w w' := by
 obtain ⟨W, hW⟩ : ∃ W, W = (w.alloc (.cells #[.int .i64 n, v] 149)).alloc (.cells #[.int .i64 0, .slice none 0 0] 149) := ⟨_, rfl⟩
 have r0 : W.heap[w.heap.size]? = some (.cells (ee n v) 149 (0, 0)) := by rw [hW]; exact heap_alloc2_old w _ _
 have r1 : W.heap[w.heap.size + 1]? = some (.cells (ee 0 (.slice none 0 0)) 149 (0, 0)) := by
  rw [hW]
  have := heap_alloc_new (w.alloc (.cells #[.int .i64 n, v] 149)) (.cells #[.int .i64 0, .slice none 0 0] 149)
  simpa [ee] using this
 have hB : Below w.heap.size w W := by rw [hW]; exact ((Below.refl _ _).alloc (Nat.le_refl _) _).alloc (by simp) _
 have hz2' : W.heap.size = w.heap.size + 2 := by rw [hW]; simp
 have q := ok_impl W n v hs (h.later hB) (by omega)
 have q2 : ∀ X, Below W.heap.size W X → _ := fun X hX => ownE_impl X n v hs ((h.later hB).later hX) hl hz
 have q3 : ∀ X, Below W.heap.size W X → _ := fun X hX => texts_impl X v hs ((h.later hB).later hX) hl hz
 have HS2 : Hid (Sl W vl (ss l)) := h2.later hB
 have HZL : Hid (∀ s ∈ l, s.size ≤ 10000000000) := hz2
 have HG : Hid (Glob w) := hG
 have HR0 : Hid _ := r0
 have HR1 : Hid _ := r1
 have HB : Hid _ := hB
 have HZ : Hid _ := hz2'
 have HW : Hid _ := hW
 rw [hW] at r0
 obtain ⟨ao, cap, rfl, hcap⟩ := h.form
 obtain ⟨aol, capl, rfl, hcapl⟩ := h2.form
 simp only [ss_len] at *
 have HL0 : Hid _ := r0
 clear hW r0 r1 hB hz2' h h2 hz hz2 hG
 by_cases h0 : l.length = 0
 ·
  have HN : Hid (allE n hs l = (n, hs, true)) := by
   show _ = _
   rw [List.eq_nil_of_length_eq_zero h0]; rfl
  have d0 : ((l.length : Int) == 0) = true := by rw [beq_iff_eq]; omega
  clear h0 q q3 HZL HG HS2
  go_enter Tryz.func118, Tryz.ntmps118
  go_wp2_with (refine wpList_load_row rfl 149 _ rfl w.heap.size rfl 149 (ee n (.slice ao hs.length cap)) (0, 0) _ HL0.out Tryz.underlying149 rfl (sizeEd _ _) ?_)
  rw [← HW.out]
  refine (q2 _ (Below.refl _ _)).mono ?_
  rintro e w2 ⟨v2, rfl, o2, b2⟩
  have J1 := rowKeep HR1.out b2
  have JB : Below w.heap.size w w2 := HB.out.trans (b2.mono HB.out.size)
  have z2 : w.heap.size + 2 ≤ W.heap.size := (by rw [HZ.out]; exact Nat.le_refl _)
  obtain ⟨ao2, L2, cap2, rfl, _, _⟩ := o2.form
  have HO : Hid (Own w2 W.heap.size w2.heap.size 9 (.slice ao2 L2 cap2) (ss hs)) := o2
  have HJ : Hid _ := J1
  have HJB : Hid _ := JB
  have HZ2 : Hid (w.heap.size + 2 ≤ W.heap.size) := z2
  clear q2 o2 b2 J1 JB z2
  go_wp2_with (refine wpList_store_row rfl 149 _ _ rfl (w.heap.size + 1) (ee n (.slice ao2 L2 cap2)) rfl rfl 149 _ HJ.out (sizeEd _ _) rfl (oneEd _ rfl) ?_)
  have zz := HZ2.out
  refine bodyPost_ret (res_row_tmp rfl _ _ (w.heap.size + 1) 149 (ee n (.slice ao2 L2 cap2)) (0, 0) _ rfl (setRow_heap _ _ _ _ _ (0, 0) HJ.out) Tryz.underlying149 rfl (sizeEd _ _)) rfl ⟨.slice ao2 L2 cap2, by rw [HN.out]; rfl, ?_, below_setRow HJB.out (by omega) _⟩
  rw [HN.out]
  exact (HO.out.setRow _ (by omega)).mono (by omega) (by simp)
 have d0 : ((l.length : Int) == 0) = false := by rw [beq_eq_false_iff_ne]; omega
 have hl1 : 1 ≤ l.length := by omega
 clear h0
 by_cases hok : okE n hs = false
 ·
  have HN : Hid (allE n hs l = (n, hs, false)) := allE_bad hok hl1
  rw [hok] at q
  clear hok q3 HZL HG HS2
  go_enter Tryz.func118, Tryz.ntmps118
  go_wp2_with (refine wpList_load_row rfl 149 _ rfl w.heap.size rfl 149 (ee n (.slice ao hs.length cap)) (0, 0) _ HL0.out Tryz.underlying149 rfl (sizeEd _ _) ?_)
  rw [← HW.out]
  refine q.mono ?_
  rintro e w1 ⟨rfl, b1⟩
  have R0 : w1.heap[w.heap.size]? = some (.cells (ee n (.slice ao hs.length cap)) 149 (0, 0)) := rowKeep HR0.out b1
  have R1 : w1.heap[w.heap.size + 1]? = some (.cells (ee 0 (.slice none 0 0)) 149 (0, 0)) := rowKeep HR1.out b1
  have k0 : w1.cell? ⟨w.heap.size, 0, none⟩ = some (.int .i64 n) := row_at R0 0
  have k1 : w1.cell? ⟨w.heap.size, 1, none⟩ = some (.slice ao hs.length cap) := row_at R0 1
  have z1 : w.heap.size + 2 ≤ w1.heap.size := by have := b1.size; rw [HZ.out] at this; exact this
  have HB1 : Hid (Below w.heap.size w w1) := HB.out.trans (b1.mono HB.out.size)
  have HW1 : Hid (Below W.heap.size W w1) := b1
  have HR0' : Hid _ := R0
  clear HR1
  have HR1 : Hid _ := R1
  have HZ1 : Hid _ := z1
  clear HL0 HW q HB HZ R0 R1 z1 b1 HR0
  go_wp2_with (refine wpList_load_row rfl 149 _ rfl w.heap.size rfl 149 (ee n (.slice ao hs.length cap)) (0, 0) _ HR0'.out Tryz.underlying149 rfl (sizeEd _ _) ?_)
  refine (q2 _ HW1.out).mono ?_
  rintro e w2 ⟨v2, rfl, o2, b2⟩
  have J1 := rowKeep HR1.out b2
  have JB : Below w.heap.size w w2 := HB1.out.trans (b2.mono HB1.out.size)
  have z2 : w.heap.size + 2 ≤ w1.heap.size := HZ1.out
  obtain ⟨ao2, L2, cap2, rfl, _, _⟩ := o2.form
  have HO : Hid (Own w2 w1.heap.size w2.heap.size 9 (.slice ao2 L2 cap2) (ss hs)) := o2
  have HJ : Hid _ := J1
  have HJB : Hid _ := JB
  have HZ2 : Hid (w.heap.size + 2 ≤ w1.heap.size) := z2
  clear q2 o2 b2 J1 JB z2
  go_wp2_with (refine wpList_store_row rfl 149 _ _ rfl (w.heap.size + 1) (ee n (.slice ao2 L2 cap2)) rfl rfl 149 _ HJ.out (sizeEd _ _) rfl (oneEd _ rfl) ?_)
  have zz := HZ2.out
  refine bodyPost_ret (res_row_tmp rfl _ _ (w.heap.size + 1) 149 (ee n (.slice ao2 L2 cap2)) (0, 0) _ rfl (setRow_heap _ _ _ _ _ (0, 0) HJ.out) Tryz.underlying149 rfl (sizeEd _ _)) rfl ⟨.slice ao2 L2 cap2, by rw [HN.out]; rfl, ?_, below_setRow HJB.out (by omega) _⟩
  rw [HN.out]
  exact (HO.out.setRow _ (by omega)).mono (by omega) (by simp)
 have hok : okE n hs = true := by
  cases e : okE n hs with
  | false => exact absurd e hok
  | true => rfl
 obtain ⟨⟨i1, i2⟩, i3, i4⟩ := okE_iff.1 hok
 obtain ⟨m, rfl⟩ : ∃ m : Nat, n = (m : Int) := ⟨n.toNat, by omega⟩
 rw [Int.toNat_natCast] at i3
 by_cases hf : 200 < m + l.length
 ·
  have HN : Hid (allE (m : Int) hs l = ((m : Int), hs, false)) := allE_full hok hf
  have hf' : (200 : Int) - (m : Int) < (l.length : Int) := by omega
  have hwr : IntKind.i64.wrap (200 - (m : Int)) = 200 - (m : Int) := by rw [IntKind.wrap_i64]; omega
  rw [hok] at q
  clear hok q3 HZL HG HS2 i3 i4
  go_enter Tryz.func118, Tryz.ntmps118
  go_wp2_with (refine wpList_load_row rfl 149 _ rfl w.heap.size rfl 149 (ee (m : Int) (.slice ao hs.length cap)) (0, 0) _ HL0.out Tryz.underlying149 rfl (sizeEd _ _) ?_)
  rw [← HW.out]
  refine q.mono ?_
  rintro e w1 ⟨rfl, b1⟩
  have R0 : w1.heap[w.heap.size]? = some (.cells (ee (m : Int) (.slice ao hs.length cap)) 149 (0, 0)) := rowKeep HR0.out b1
  have R1 : w1.heap[w.heap.size + 1]? = some (.cells (ee 0 (.slice none 0 0)) 149 (0, 0)) := rowKeep HR1.out b1
  have k0 : w1.cell? ⟨w.heap.size, 0, none⟩ = some (.int .i64 (m : Int)) := row_at R0 0
  have k1 : w1.cell? ⟨w.heap.size, 1, none⟩ = some (.slice ao hs.length cap) := row_at R0 1
  have z1 : w.heap.size + 2 ≤ w1.heap.size := by have := b1.size; rw [HZ.out] at this; exact this
  have HB1 : Hid (Below w.heap.size w w1) := HB.out.trans (b1.mono HB.out.size)
  have HW1 : Hid (Below W.heap.size W w1) := b1
  have HR0' : Hid _ := R0
  clear HR1
  have HR1 : Hid _ := R1
  have HZ1 : Hid _ := z1
  clear HL0 HW q HB HZ R0 R1 z1 b1 HR0
  go_wp2_with (refine wpList_load_row rfl 149 _ rfl w.heap.size rfl 149 (ee (m : Int) (.slice ao hs.length cap)) (0, 0) _ HR0'.out Tryz.underlying149 rfl (sizeEd _ _) ?_)
  refine (q2 _ HW1.out).mono ?_
  rintro e w2 ⟨v2, rfl, o2, b2⟩
  have J1 := rowKeep HR1.out b2
  have JB : Below w.heap.size w w2 := HB1.out.trans (b2.mono HB1.out.size)
  have z2 : w.heap.size + 2 ≤ w1.heap.size := HZ1.out
  obtain ⟨ao2, L2, cap2, rfl, _, _⟩ := o2.form
  have HO : Hid (Own w2 w1.heap.size w2.heap.size 9 (.slice ao2 L2 cap2) (ss hs)) := o2
  have HJ : Hid _ := J1
  have HJB : Hid _ := JB
  have HZ2 : Hid (w.heap.size + 2 ≤ w1.heap.size) := z2
  clear q2 o2 b2 J1 JB z2
  go_wp2_with (refine wpList_store_row rfl 149 _ _ rfl (w.heap.size + 1) (ee (m : Int) (.slice ao2 L2 cap2)) rfl rfl 149 _ HJ.out (sizeEd _ _) rfl (oneEd _ rfl) ?_)
  have zz := HZ2.out
  refine bodyPost_ret (res_row_tmp rfl _ _ (w.heap.size + 1) 149 (ee (m : Int) (.slice ao2 L2 cap2)) (0, 0) _ rfl (setRow_heap _ _ _ _ _ (0, 0) HJ.out) Tryz.underlying149 rfl (sizeEd _ _)) rfl ⟨.slice ao2 L2 cap2, by rw [HN.out]; rfl, ?_, below_setRow HJB.out (by omega) _⟩
  rw [HN.out]
  exact (HO.out.setRow _ (by omega)).mono (by omega) (by simp)
 have hf : m + l.length ≤ 200 := by omega
 have HN : Hid (allE (m : Int) hs l = (((m + l.length : Nat) : Int), cfold m hs l, true)) := allE_yes hok hf
 have HOK : Hid (okE (m : Int) hs = true) := hok
 have hf' : ¬ (200 : Int) - (m : Int) < (l.length : Int) := by omega
 have hwr : IntKind.i64.wrap (200 - (m : Int)) = 200 - (m : Int) := by rw [IntKind.wrap_i64]; omega
 rw [hok] at q
 clear hok q2 i3 i4
 go_enter Tryz.func118, Tryz.ntmps118
 go_wp2_with (refine wpList_load_row rfl 149 _ rfl w.heap.size rfl 149 (ee (m : Int) (.slice ao hs.length cap)) (0, 0) _ HL0.out Tryz.underlying149 rfl (sizeEd _ _) ?_)
 rw [← HW.out]
 refine q.mono ?_
 rintro e w1 ⟨rfl, b1⟩
 have R0 : w1.heap[w.heap.size]? = some (.cells (ee (m : Int) (.slice ao hs.length cap)) 149 (0, 0)) := rowKeep HR0.out b1
 have R1 : w1.heap[w.heap.size + 1]? = some (.cells (ee 0 (.slice none 0 0)) 149 (0, 0)) := rowKeep HR1.out b1
 have k0 : w1.cell? ⟨w.heap.size, 0, none⟩ = some (.int .i64 (m : Int)) := row_at R0 0
 have k1 : w1.cell? ⟨w.heap.size, 1, none⟩ = some (.slice ao hs.length cap) := row_at R0 1
 have z1 : w.heap.size + 2 ≤ w1.heap.size := by have := b1.size; rw [HZ.out] at this; exact this
 have HB1 : Hid (Below w.heap.size w w1) := HB.out.trans (b1.mono HB.out.size)
 have HW1 : Hid (Below W.heap.size W w1) := b1
 have HR0' : Hid _ := R0
 have HZ1 : Hid _ := z1
 clear HL0 HW q R0 R1 z1 b1
 go_wp2_with fail
 refine (q3 _ HW1.out).mono ?_
 rintro e w2 ⟨v2, rfl, o2, b2⟩
 obtain ⟨ao2, L2, cap2, rfl, _, _⟩ := o2.form
 have W2 : Below W.heap.size W w2 := HW1.out.trans (b2.mono HW1.out.size)
 have HS3 : Hid (Sk (w2.alloc (.cells #[.slice ao2 L2 cap2] 190)) W.heap.size w2.heap.size (cfold m hs (l.take 0))) := ⟨_, W2.size, heap_alloc_new _ _, (o2.mono HW1.out.size (Nat.le_refl _)).alloc _⟩
 have HW3 : Hid (Below W.heap.size W (w2.alloc (.cells #[.slice ao2 L2 cap2] 190))) := W2.alloc W2.size _
 clear q3 o2 b2 W2 HB1 HW1 HR0' HZ1 k0 k1 hok
 go_wp2
 go_loopw [37] (fun i wr => ∃ k : Nat, k ≤ l.length ∧ i = .int .i64 (k : Int) ∧ Hid (Sk wr W.heap.size w2.heap.size (cfold m hs (l.take k))) ∧ Hid (Below W.heap.size W wr)) (fun i _ => l.length - (intOf i).toNat)
 case atStart => exact ⟨0, Nat.zero_le _, rfl, HS3, HW3⟩
 case round =>
  obtain ⟨k, hk, rfl, HS, HWr⟩ := hrel
  clear HS3 HW3
  have zW := HZ.out
  have R0 : wr.heap[w.heap.size]? = some (.cells (ee (m : Int) (.slice ao hs.length cap)) 149 (0, 0)) := (HWr.out.block _ (by omega)).trans HR0.out
  have k0 : wr.cell? ⟨w.heap.size, 0, none⟩ = some (.int .i64 (m : Int)) := row_at R0 0
  have HG' : ∀ X, Below W.heap.size W X → Glob X := fun X hX => HG.out.later (HB.out.trans (hX.mono HB.out.size))
  by_cases hlt : k < l.length
  ·
   obtain ⟨s, hs0⟩ : ∃ s, l[k]? = some s := ⟨l[k], by simp⟩
   have hlt' : (k : Int) < (l.length : Int) := by omega
   obtain ⟨b, off, rfl, hcell⟩ : ∃ b off, aol = some ⟨b, off, none⟩ ∧ wr.cell? ⟨b, off + k, none⟩ = some (.string s) := by
    obtain ⟨ao', c', he, _, _, hr⟩ := HS2.out.later HWr.out
    rw [ss_len] at he hr
    simp only [Value.slice.injEq] at he
    obtain ⟨rfl, _, rfl⟩ := he
    obtain ⟨b, off, he, hc⟩ := hr (by omega)
    exact ⟨b, off, he, by rw [hc k hlt]; simp [ss, hs0]⟩
   have hok' := (goE_yes (l.take k) m hs HOK.out (by rw [List.length_take]; omega)).2
   rw [List.length_take, Nat.min_eq_left hk] at hok'
   obtain ⟨_, hp', h32⟩ := okE_iff.1 hok'
   rw [Int.toNat_natCast] at hp'
   have q4 : ∀ X, Below W.heap.size W X → _ := fun X hX => leaf_impl X s (HG' X hX) (by have := HZL.out s (List.mem_of_getElem? hs0); omega)
   have hj : ((m + k : Nat) : Int) = (m : Int) + (k : Int) := by omega
   have q5 : ∀ X, Below W.heap.size W X → Sk X W.heap.size w2.heap.size (cfold m hs (l.take k)) → _ := fun X hX hS => carried_impl X W.heap.size w2.heap.size (m + k) (cfold m hs (l.take k)) (leafH s) (fun Y hY => HG' Y (hX.trans hY)) hS (by omega) hp' h32 (leafH_size s)
   simp only [hj] at q5
   have HC : Hid (cfold m hs (l.take (k + 1)) = carry (m + k) (cfold m hs (l.take k)) (leafH s)) := cfold_at hs0
   have HLn : Hid ((carry (m + k) (cfold m hs (l.take k)) (leafH s)).length ≤ 9) := by
    have h1 := carry_len (m + k) (cfold m hs (l.take k)) (leafH s) hp'
    have h2 := popc_le ⟨m + k + 1, by omega⟩
    simp only at h2
    show _ ≤ _
    omega
   have hwk : IntKind.i64.wrap ((m : Int) + (k : Int)) = (m : Int) + (k : Int) := by rw [IntKind.wrap_i64]; omega
   have hb : w.heap.size < W.heap.size := by omega
   clear hs0 hok' hp' h32 R0 hj zW HG'
   go_wp2_with fail
   refine wp_region_held_drew (S := fun w' => w'.cell? ⟨w.heap.size, 0, none⟩ = some (.int .i64 (m : Int))) (by kernel_rfl) k0 (fun hHeld => ?_)
   (refine wpAnyH_take (i := 0) (v := ?v0x1) rfl (by kernel_rfl) (by kernel_rfl) (by kernel_rfl) (fun _ _ _ h => h) (Or.inl ⟨by rfl, ?hy0x1⟩) (by assumption) ?rest0x1; case hy0x1 => (intro w hSw; (try dsimp only at hSw); go_split_ands; go_simp; (try with_reducible rfl)))
   try simp only [Act.put, pu1, pu2, pu3, pu4, pu5, pu6]
   (refine wpAnyH_take (i := 1) (v := ?v1x2) rfl (by kernel_rfl) (by kernel_rfl) (by kernel_rfl) (fun _ _ _ h => h) (Or.inl ⟨by rfl, ?hy1x2⟩) (by assumption) ?rest1x2; case hy1x2 => (intro w hSw; (try dsimp only at hSw); go_split_ands; go_simp; (try with_reducible rfl)))
   try simp only [Act.put, pu1, pu2, pu3, pu4, pu5, pu6]
   (refine wpAnyH_take (i := 3) (v := ?v3x3) rfl (by kernel_rfl) (by kernel_rfl) (by kernel_rfl) (fun _ _ _ h => h) (Or.inl ⟨by rfl, ?hy3x3⟩) (by assumption) ?rest3x3; case hy3x3 => (intro w hSw; (try dsimp only at hSw); go_split_ands; go_simp; (try with_reducible rfl)))
   try simp only [Act.put, pu1, pu2, pu3, pu4, pu5, pu6]
   (refine wpAnyH_take (i := 4) (v := ?v4x4) rfl (by kernel_rfl) (by kernel_rfl) (by kernel_rfl) (fun _ _ _ h => h) (Or.inl ⟨by rfl, ?hy4x4⟩) (by assumption) ?rest4x4; case hy4x4 => (intro w hSw; (try dsimp only at hSw); go_split_ands; go_simp; (try with_reducible rfl)))
   try simp only [Act.put, pu1, pu2, pu3, pu4, pu5, pu6]
   (refine wpAnyH_take (i := 5) (v := ?v5x5) rfl (by kernel_rfl) (by kernel_rfl) (by kernel_rfl) (fun _ _ _ h => h) (Or.inl ⟨by rfl, ?hy5x5⟩) (by assumption) ?rest5x5; case hy5x5 => (intro w hSw; (try dsimp only at hSw); go_split_ands; go_simp; (try with_reducible rfl)))
   try simp only [Act.put, pu1, pu2, pu3, pu4, pu5, pu6]
   (refine wpAnyH_take (i := 6) (v := ?v6x6) rfl (by kernel_rfl) (by kernel_rfl) (by kernel_rfl) (fun _ _ _ h => h) (Or.inl ⟨by rfl, ?hy6x6⟩) (by assumption) ?rest6x6; case hy6x6 => (intro w hSw; (try dsimp only at hSw); go_split_ands; go_simp; (try with_reducible rfl)))
   try simp only [Act.put, pu1, pu2, pu3, pu4, pu5, pu6]
   (refine wpAnyH_take (i := 7) (v := ?v7x7) rfl (by kernel_rfl) (by kernel_rfl) (by kernel_rfl) (fun _ _ _ h => h) (Or.inl ⟨by rfl, ?hy7x7⟩) (by assumption) ?rest7x7; case hy7x7 => (intro w hSw; (try dsimp only at hSw); go_split_ands; go_simp; (try with_reducible rfl)))
   try simp only [Act.put, pu1, pu2, pu3, pu4, pu5, pu6]
   refine wpAnyH_ready (rs := [2]) (by kernel_rfl) (by simp) ?_
   refine AllReadyH.cons rfl (fun K hK => ?_) AllReadyH.nil
   go_simp
   refine (q4 _ (Below.drew HWr.out)).mono ?_
   rintro e w4 ⟨rfl, b4⟩
   refine hK.out _ _ (keepR hHeld b4) (fun hHeld => ?_)
   clear hK K
   try simp only [Act.put, pu1, pu2, pu3, pu4, pu5, pu6]
   have B4 : Below W.heap.size W w4 := (Below.drew HWr.out).trans (b4.mono (Below.drew HWr.out).size)
   have S4 : Sk w4 W.heap.size w2.heap.size (cfold m hs (l.take k)) := Sk.later (w := wr.drew) HS.out b4
   refine wpAnyH_ready (rs := [8]) (by kernel_rfl) (by simp) ?_
   refine AllReadyH.cons rfl (fun K hK => ?_) AllReadyH.nil
   go_simp
   refine (q5 _ B4 S4).mono ?_
   rintro e w5 ⟨q, g, rfl, s5, b5, HQ⟩
   refine hK.out _ _ ((b5.cell (by exact hb)).trans hHeld) (fun hHeld => ?_)
   clear hK K
   try simp only [Act.put, pu1, pu2, pu3, pu4, pu5, pu6]
   have B5 : Below W.heap.size W w5 := B4.trans b5
   have hq : q.length ≤ 1000000000 := by have h1 := HLn.out; rw [HQ.out, List.length_append] at h1; omega
   have q6 := push_any w5 W.heap.size w2.heap.size q g s5 hq
   refine wpAnyH_ready (rs := [9]) (by kernel_rfl) (by simp) ?_
   refine AllReadyH.cons rfl (fun K hK => ?_) AllReadyH.nil
   go_simp
   refine q6.mono ?_
   rintro e w6 ⟨rfl, s6, b6⟩
   refine hK.out _ _ ((b6.cell (by exact hb)).trans hHeld) (fun hHeld => ?_)
   clear hK K
   try simp only [Act.put, pu1, pu2, pu3, pu4, pu5, pu6]
   have HB6 : Hid (Below W.heap.size W w6) := B5.trans b6
   have HS6 : Hid (Sk w6 W.heap.size w2.heap.size (cfold m hs (l.take (k + 1)))) := by
    show Sk _ _ _ _
    rw [HC.out, HQ.out]; exact s6
   clear q4 q5 q6 s5 s6 b4 b5 b6 B4 B5 S4
   refine wpAnyH_done (by kernel_rfl) ?_ _
   clear hHeld
   go_wp2
   go_roundw
   case rel => exact ⟨k + 1, by omega, by go_num, HS6, HB6⟩
   case measure => simp [intOf]; omega
  ·
   have hlt' : ¬ (k : Int) < (l.length : Int) := by omega
   have hS := HS.out
   rw [List.take_of_length_le (show l.length ≤ k by omega)] at hS
   obtain ⟨ao6, L6, cap6, c6, o6⟩ := hS.sl
   have R1 : wr.heap[w.heap.size + 1]? = some (.cells (ee 0 (.slice none 0 0)) 149 (0, 0)) := (HWr.out.block _ (by omega)).trans HR1.out
   have JB : Below w.heap.size w wr := HB.out.trans (HWr.out.mono HB.out.size)
   have HJ : Hid _ := R1
   have HJB : Hid _ := JB
   have HO : Hid (Own wr W.heap.size wr.heap.size 9 (.slice ao6 L6 cap6) (ss (cfold m hs l))) := o6
   have hwk : IntKind.i64.wrap ((m : Int) + (l.length : Int)) = (m : Int) + (l.length : Int) := by rw [IntKind.wrap_i64]; omega
   have HZW : Hid (W.heap.size = w.heap.size + 2) := zW
   clear hS HS R0 R1 JB o6 zW HG'
   go_wp2_with (refine wpList_store_row rfl 149 _ _ rfl (w.heap.size + 1) (ee ((m : Int) + (l.length : Int)) (.slice ao6 L6 cap6)) rfl rfl 149 _ HJ.out (sizeEd _ _) rfl (oneEd _ rfl) ?_)
   have zz := HZW.out
   refine bodyPost_ret (res_row_tmp rfl _ _ (w.heap.size + 1) 149 (ee ((m : Int) + (l.length : Int)) (.slice ao6 L6 cap6)) (0, 0) _ rfl (setRow_heap _ _ _ _ _ (0, 0) HJ.out) Tryz.underlying149 rfl (sizeEd _ _)) rfl ⟨.slice ao6 L6 cap6, by rw [HN.out]; rfl, ?_, below_setRow HJB.out (by omega) _⟩
   rw [HN.out]
   exact (HO.out.setRow _ (by omega)).mono (by omega) (by simp)
theorem eroot_join : ∀ (q : List ByteArray) (y r : ByteArray), eroot (q ++ [y, r]) = eroot (q ++ [nodeH y r])
 | [], y, r => rfl
 | [a], y, r => rfl
 | a :: b :: q, y, r => by
  show eroot (a :: (b :: q ++ [y, r])) = eroot (a :: (b :: q ++ [nodeH y r]))
  rw [eroot_cons (by simp), eroot_cons (by simp), eroot_join (b :: q) y r]
def bN : Value → Nat
 | .bool true => 1
 | _ => 0
def skLen (w : World) (gs : Nat) : Nat := match w.cell? ⟨gs, 0, none⟩ with
 | some (.slice _ n _) => n
 | _ => 0
theorem Sk.len {w : World} {lo gs : Nat} {hs : List ByteArray} (h : Sk w lo gs hs) : skLen w gs = hs.length := by
 obtain ⟨v, h1, h2, h3⟩ := h
 obtain ⟨ao, cap, rfl⟩ := h3.len
 have : w.cell? ⟨gs, 0, none⟩ = some (.slice ao (ss hs).length cap) := row_at h2 0
 unfold skLen
 rw [this, ss_len]
set_option maxRecDepth 1000000 in
set_option maxHeartbeats 4000000 in
theorem pop_case (w : World) (lo gs : Nat) (q : List ByteArray) (h : Sk w lo gs q) (hl : q.length ≤ 1000000000) : ∃ (y : ByteArray) (mo : Bool) (q1 : List ByteArray), Hid ((mo = true ∧ q = q1 ++ [y]) ∨ (mo = false ∧ q = [] ∧ q1 = [])) ∧
  Calls Tryz.prog 162 #[.pointer (some ⟨gs, 0, none⟩)] w fun e w' => e = .returned (.tuple #[.string y, .bool mo]) ∧ Sk w' lo gs q1 ∧ Below lo w w' := by
 by_cases hn : q = []
 ·
  subst hn
  refine ⟨⟨#[]⟩, false, [], .inr ⟨rfl, rfl, rfl⟩, (pop_none w lo gs h).mono ?_⟩
  rintro e w' ⟨rfl, rfl⟩
  exact ⟨rfl, h, Below.refl _ _⟩
 ·
  have hq := (List.dropLast_concat_getLast hn).symm
  refine ⟨q.getLast hn, true, q.dropLast, .inl ⟨rfl, hq⟩, ?_⟩
  exact pop_some w lo gs q.dropLast (q.getLast hn) (by rw [← hq]; exact h) (by rw [List.length_dropLast]; omega)
def Inv (w wr : World) (gs : Nat) (r y : ByteArray) (mo : Bool) (t : ByteArray) : Prop :=
 ∃ q : List ByteArray, Sk wr w.heap.size gs q ∧ Below w.heap.size w wr ∧ q.length ≤ 1000000000 ∧
  (mo = true → t = eroot (q ++ [y, r]) ∧ (∀ s ∈ q, s.size = 32) ∧ y.size = 32 ∧ r.size = 32) ∧ (mo = false → t = r ∧ q = [])
set_option maxRecDepth 1000000 in
set_option maxHeartbeats 4000000 in
theorem rootE_impl (w : World) (n : Int) (v : Value) (hs : List ByteArray) (hG : Glob w) (h : Sl w v (ss hs)) (hl : hs.length ≤ 1000000000) (hz : ∀ s ∈ hs, s.size ≤ 1000000000000) :
  Calls Tryz.prog 119 #[.agg #[.int .i64 n, v]] w fun e w' => e = .returned (.string (rootE n hs)) ∧ Below w.heap.size w w' := by
 have hB : Below w.heap.size w (w.alloc (.cells #[.int .i64 n, v] 149)) := (Below.refl _ _).alloc (Nat.le_refl _) _
 have r0 : (w.alloc (.cells #[.int .i64 n, v] 149)).heap[w.heap.size]? = some (.cells (ee n v) 149 (0, 0)) := heap_alloc_new w _
 have q := ok_impl (w.alloc (.cells #[.int .i64 n, v] 149)) n v hs (h.later hB) (by omega)
 have q3 : ∀ X, Below w.heap.size w X → _ := fun X hX => texts_impl X v hs (h.later hX) hl hz
 have HG : Hid (∀ X, Below w.heap.size w X → Glob X) := fun X hX => hG.later hX
 have HR0 : Hid _ := r0
 have HB : Hid _ := hB
 obtain ⟨ao, cap, rfl, hcap⟩ := h.form
 simp only [ss_len] at *
 clear r0 hB h hz hG
 by_cases hok : okE n hs = false
 ·
  have HN : Hid (rootE n hs = ⟨#[]⟩) := by show _ = _; unfold rootE; rw [if_neg (by rw [hok]; simp)]
  rw [hok] at q
  clear hok q3
  go_enter Tryz.func119, Tryz.ntmps119
  go_wp2_with (refine wpList_load_row rfl 149 _ rfl w.heap.size rfl 149 (ee n (.slice ao hs.length cap)) (0, 0) _ HR0.out Tryz.underlying149 rfl (sizeEd _ _) ?_)
  refine q.mono ?_
  rintro e w1 ⟨rfl, b1⟩
  have HB1 : Hid (Below w.heap.size w w1) := HB.out.trans (b1.mono HB.out.size)
  clear q b1 HB HR0
  go_wp2
  go_ret
  exact ⟨by rw [HN.out]; rfl, HB1.out⟩
 have hok : okE n hs = true := by
  cases e : okE n hs with
  | false => exact absurd e hok
  | true => rfl
 have HN : Hid (rootE n hs = eroot hs) := by show _ = _; unfold rootE; rw [if_pos hok]
 obtain ⟨⟨i1, i2⟩, i3, i4⟩ := okE_iff.1 hok
 have H32 : Hid (∀ s ∈ hs, s.size = 32) := i4
 rw [hok] at q
 clear hok i3 i4
 go_enter Tryz.func119, Tryz.ntmps119
 go_wp2_with (refine wpList_load_row rfl 149 _ rfl w.heap.size rfl 149 (ee n (.slice ao hs.length cap)) (0, 0) _ HR0.out Tryz.underlying149 rfl (sizeEd _ _) ?_)
 refine q.mono ?_
 rintro e w1 ⟨rfl, b1⟩
 have HB1 : Hid (Below w.heap.size w w1) := HB.out.trans (b1.mono HB.out.size)
 have R0 : w1.heap[w.heap.size]? = some (.cells (ee n (.slice ao hs.length cap)) 149 (0, 0)) := rowKeep HR0.out b1
 have k1 : w1.cell? ⟨w.heap.size, 1, none⟩ = some (.slice ao hs.length cap) := row_at R0 1
 clear q b1 HB HR0 R0
 go_wp2_with fail
 refine (q3 _ HB1.out).mono ?_
 rintro e w2 ⟨v2, rfl, o2, b2⟩
 obtain ⟨ao2, L2, cap2, rfl, _, _⟩ := o2.form
 have B2 : Below w.heap.size w w2 := HB1.out.trans (b2.mono HB1.out.size)
 have HS3 : Hid (Sk (w2.alloc (.cells #[.slice ao2 L2 cap2] 190)) w.heap.size w2.heap.size hs) := ⟨_, B2.size, heap_alloc_new _ _, (o2.mono HB1.out.size (Nat.le_refl _)).alloc _⟩
 have HB3 : Hid (Below w.heap.size w (w2.alloc (.cells #[.slice ao2 L2 cap2] 190))) := B2.alloc B2.size _
 clear q3 o2 b2 B2 HB1 k1
 go_wp2_with fail
 by_cases hn : hs = []
 ·
  have HN' : Hid (rootE n hs = rootOf []) := by show _ = _; rw [HN.out, hn]; rfl
  have q4 := pop_none (w2.alloc (.cells #[.slice ao2 L2 cap2] 190)) w.heap.size w2.heap.size (by have := HS3.out; rw [hn] at this; exact this)
  have q5 := root_impl (w2.alloc (.cells #[.slice ao2 L2 cap2] 190)) (.slice none 0 0) [] (HG.out _ HB3.out) (Sl.nil _) (by simp) (fun s hs => by cases hs)
  clear hn HN H32
  refine q4.mono ?_
  rintro e w4 ⟨rfl, rfl⟩
  clear q4
  go_wp2_with fail
  refine q5.mono ?_
  rintro e w5 ⟨rfl, b5⟩
  have HB5 : Hid (Below w.heap.size w w5) := HB3.out.trans (b5.mono HB3.out.size)
  clear q5 b5 HS3 HB3
  go_wp2
  go_ret
  exact ⟨by rw [HN'.out]; rfl, HB5.out⟩
 obtain ⟨q, x, hq⟩ : ∃ q x, hs = q ++ [x] := ⟨hs.dropLast, hs.getLast hn, (List.dropLast_concat_getLast hn).symm⟩
 have hql : q.length + 1 ≤ 1000000000 := by rw [hq, List.length_append] at hl; simpa using hl
 have q4 := pop_some (w2.alloc (.cells #[.slice ao2 L2 cap2] 190)) w.heap.size w2.heap.size q x (by have := HS3.out; rw [hq] at this; exact this) (by omega)
 have HN' : Hid (rootE n hs = eroot (q ++ [x])) := by show _ = _; rw [HN.out, hq]
 have HQ : Hid (∀ s ∈ q, s.size = 32) := fun s hs' => H32.out s (by rw [hq]; simp [hs'])
 have hx : x.size = 32 := H32.out x (by rw [hq]; simp)
 clear hn HN H32 hq
 refine q4.mono ?_
 rintro e w4 ⟨rfl, s4, b4⟩
 have HB4 : Hid (Below w.heap.size w w4) := HB3.out.trans b4
 have HS4 : Hid (Sk w4 w.heap.size w2.heap.size q) := s4
 clear q4 s4 b4 HS3 HB3
 go_wp2_with fail
 -- the next one
 obtain ⟨y, mo, q1, HY, q5⟩ : ∃ (y : ByteArray) (mo : Bool) (q1 : List ByteArray), Hid ((mo = true ∧ q = q1 ++ [y]) ∨ (mo = false ∧ q = [] ∧ q1 = [])) ∧
   Calls Tryz.prog 162 #[.pointer (some ⟨w2.heap.size, 0, none⟩)] w4 fun e w' => e = .returned (.tuple #[.string y, .bool mo]) ∧ Sk w' w.heap.size w2.heap.size q1 ∧ Below w.heap.size w4 w' := pop_case w4 w.heap.size w2.heap.size q HS4.out (by omega)
 refine q5.mono ?_
 rintro e w5 ⟨rfl, s5, b5⟩
 have HI : Hid (Inv w w5 w2.heap.size x y mo (rootE n hs)) := by
  refine ⟨q1, s5, HB4.out.trans b5, ?_, ?_, ?_⟩
  ·
   rcases HY.out with ⟨_, hh⟩ | ⟨_, hh, rfl⟩
   ·
    have := congrArg List.length hh; simp at this; omega
   ·
    simp
  ·
   intro hm
   rcases HY.out with ⟨_, hh⟩ | ⟨hh, _⟩
   ·
    refine ⟨?_, fun s hs' => HQ.out s (by rw [hh]; simp [hs']), HQ.out y (by rw [hh]; simp), hx⟩
    rw [HN'.out, hh, List.append_assoc]; rfl
   ·
    rw [hm] at hh; cases hh
  ·
   intro hm
   rcases HY.out with ⟨hh, _⟩ | ⟨_, hh, hh2⟩
   ·
    rw [hm] at hh; cases hh
   ·
    rw [HN'.out, hh]; exact ⟨rfl, hh2⟩
 clear q5 s5 b5 HY HB4 HS4 HQ HN'
 go_wp2
 go_loopw [5, 7, 8] (fun a b c wr => ∃ (r y : ByteArray) (mo : Bool), a = .string r ∧ b = .string y ∧ c = .bool mo ∧ Hid (Inv w wr w2.heap.size r y mo (rootE n hs))) (fun _ _ c wr => skLen wr w2.heap.size + bN c)
 case atStart => exact ⟨x, y, mo, rfl, rfl, rfl, HI⟩
 case round =>
  clear HI hx
  obtain ⟨r, y, mo, rfl, rfl, rfl, HI⟩ := hrel
  cases mo
  ·
   have HN : Hid (r = rootE n hs) := by
    obtain ⟨q, h1, h2, h3, h4, h5⟩ := HI.out
    exact (h5 rfl).1.symm
   have HB5 : Hid (Below w.heap.size w wr) := by obtain ⟨q, h1, h2, _⟩ := HI.out; exact h2
   clear HI
   go_wp2
   go_ret
   exact ⟨by rw [HN.out]; rfl, HB5.out⟩
  ·
   obtain ⟨q, h1, h2, h3, h4, h5⟩ := HI.out
   obtain ⟨e1, e2, e3, e4⟩ := h4 rfl
   have HL : Hid (skLen wr w2.heap.size = q.length) := h1.len
   have q6 := node_impl wr y r (HG.out _ h2) (by omega) (by omega)
   have HS1 : Hid (Sk wr w.heap.size w2.heap.size q) := h1
   have HB1 : Hid (Below w.heap.size w wr) := h2
   have HE1 : Hid (rootE n hs = eroot (q ++ [y, r])) := e1
   have HE2 : Hid (∀ s ∈ q, s.size = 32) := e2
   clear HI h1 h2 h4 h5 e1 e2 e3 e4
   go_wp2_with fail
   refine q6.mono ?_
   rintro e w7 ⟨rfl, b7⟩
   have HS7 : Hid (Sk w7 w.heap.size w2.heap.size q) := HS1.out.later b7
   have HB7 : Hid (Below w.heap.size w w7) := HB1.out.trans (b7.mono HB1.out.size)
   clear q6 b7 HS1 HB1
   go_wp2_with fail
   obtain ⟨y', mo, q1, HY, q8⟩ : ∃ (y : ByteArray) (mo : Bool) (q1 : List ByteArray), Hid ((mo = true ∧ q = q1 ++ [y]) ∨ (mo = false ∧ q = [] ∧ q1 = [])) ∧
    Calls Tryz.prog 162 #[.pointer (some ⟨w2.heap.size, 0, none⟩)] w7 fun e w' => e = .returned (.tuple #[.string y, .bool mo]) ∧ Sk w' w.heap.size w2.heap.size q1 ∧ Below w.heap.size w7 w' := pop_case w7 w.heap.size w2.heap.size q HS7.out (by omega)
   refine q8.mono ?_
   rintro e w8 ⟨rfl, s8, b8⟩
   have HL8 : Hid (skLen w8 w2.heap.size = q1.length) := s8.len
   have HI : Hid (Inv w w8 w2.heap.size (nodeH y r) y' mo (rootE n hs)) := by
    refine ⟨q1, s8, HB7.out.trans b8, ?_, ?_, ?_⟩
    ·
     rcases HY.out with ⟨_, hh⟩ | ⟨_, hh, rfl⟩
     ·
      have := congrArg List.length hh; simp at this; omega
     ·
      simp
    ·
     intro hm
     rcases HY.out with ⟨_, hh⟩ | ⟨hh, _⟩
     ·
      refine ⟨?_, fun s hs' => HE2.out s (by rw [hh]; simp [hs']), HE2.out y' (by rw [hh]; simp), nodeH_size _ _⟩
      rw [HE1.out, eroot_join, hh, List.append_assoc]; rfl
     ·
      rw [hm] at hh; cases hh
    ·
     intro hm
     rcases HY.out with ⟨hh, _⟩ | ⟨_, hh, hh2⟩
     ·
      rw [hm] at hh; cases hh
     ·
      rw [HE1.out, hh]; exact ⟨rfl, hh2⟩
   have HM : Hid (q1.length + (if mo = true then 1 else 0) ≤ q.length) := by
    show _ ≤ _
    rcases HY.out with ⟨rfl, hh⟩ | ⟨rfl, hh, rfl⟩
    ·
     rw [hh]; simp
    ·
     simp
   clear q8 s8 b8 HY HB7 HS7 HE1 HE2
   go_wp2
   go_roundw
   case rel => exact ⟨nodeH y r, y', mo, rfl, rfl, rfl, HI⟩
   case measure =>
    have h1 := HM.out
    have h2 := HL.out
    have h3 := HL8.out
    cases mo <;> simp [bN] at h1 ⊢ <;> omega
end Go.Proofs.YtchonoonclllbaaGreatDoor.Ed
namespace Go.Proofs.YtchonoonclllbaaGreatDoor.Cl
open Go.RowKit Go.Proofs.YtchonoonclllbaaGreatDoor.Mem Go.Proofs.YtchonoonclllbaaGreatDoor.Laws Go.Proofs.YtchonoonclllbaaGreatDoor.Bytes Go.Proofs.YtchonoonclllbaaGreatDoor.Sha Go.Proofs.YtchonoonclllbaaGreatDoor.Tr
set_option linter.unusedVariables false
set_option linter.unusedSimpArgs false
theorem beq_no {a b : ByteArray} (h : a ≠ b) : (a.toList == b.toList) = false := by
 rw [beq_eq_false_iff_ne, ByteArray.toList_eq, ByteArray.toList_eq]
 intro e
 apply h
 cases a
 cases b
 simp only at e
 rw [Array.ext' e]
theorem Sl.form {w : World} {v : Value} {cs : List Value} (h : Sl w v cs) : ∃ (ao : Option Addr) (cap : Nat), v = .slice ao cs.length cap ∧ cs.length ≤ cap := by
 obtain ⟨ao, cap, rfl, hc, _⟩ := h
 exact ⟨ao, cap, rfl, hc⟩
set_option maxRecDepth 1000000 in
set_option maxHeartbeats 1000000 in
theorem same_impl (w : World) (v1 v2 : Value) (l m : List ByteArray) (t : Bool) (ht : t = true ↔ l = m) (h1 : Sl w v1 (ss l)) (h2 : Sl w v2 (ss m)) (hl : l.length ≤ 1000000000000) (hm : m.length ≤ 1000000000000) :
  Calls Tryz.prog 117 #[v1, v2] w fun e w' => e = .returned (.bool t) ∧ (∀ B, Below B w w') ∧ w'.heap.size = w.heap.size := by
 obtain ⟨ao, cap, rfl, hc1, _, hr1⟩ := h1
 obtain ⟨bo, cap2, rfl, hc2, _, hr2⟩ := h2
 rw [ss_len] at hr1 hr2 hc1 hc2
 rw [ss_len, ss_len]
 have HT : Hid (t = true ↔ l = m) := ht
 clear ht
 by_cases hlm : l.length = m.length
 ·
  have dn : ((l.length : Int) == (m.length : Int)) = true := by rw [beq_iff_eq]; omega
  have HLM : Hid (l.length = m.length) := hlm
  have hlm1 : l.length ≤ m.length := by omega
  have hlm2 : m.length ≤ l.length := by omega
  clear hlm
  go_enter Tryz.func117, Tryz.ntmps117
  go_wp2
  go_loopw [13] (fun i wr => ∃ k n : Nat, k ≤ l.length ∧ i = .int .i64 k ∧ Hid (l.take k = m.take k) ∧ wr = w.drewN n) (fun i _ => l.length - (intOf i).toNat)
  case atStart => exact ⟨0, 0, Nat.zero_le _, rfl, rfl, rfl⟩
  case round =>
   obtain ⟨k, n, hk, rfl, HK, rfl⟩ := hrel
   by_cases hlt : k < l.length
   ·
    obtain ⟨b, off, s, rfl, hx0, hcell⟩ := Sl.strAt hr1 rfl hlt
    obtain ⟨b2, off2, s2, rfl, hy0, hcell2⟩ := Sl.strAt hr2 rfl (show k < m.length by omega)
    have hlt' : (k : Int) < (m.length : Int) := by omega
    by_cases hst : s = s2
    ·
     subst hst
     have HN : Hid (l.take (k + 1) = m.take (k + 1)) := by
      show _ = _
      rw [List.take_add_one, List.take_add_one, HK.out, hx0, hy0]
     clear hx0 hy0 hr1 hr2 HK
     go_wp2
     go_quiet (fail)
     go_wp2
     go_roundw
     case rel => exact ⟨k + 1, n + nq, by omega, by go_num, HN, rfl⟩
     case measure => simp [intOf]; omega
    ·
     have HF : Hid (t = false) := by
      show _ = _
      cases t with
      | false => rfl
      | true =>
       have e := HT.out.1 rfl
       subst e
       rw [hx0] at hy0
       exact absurd (Option.some.inj hy0) hst
     have dq := beq_no hst
     clear hx0 hy0 hr1 hr2 HK hst
     go_wp2
     go_quiet (fail)
     go_wp2
     go_ret
     exact ⟨by rw [HF.out]; rfl, fun B => below_drewN (below_drewN (Below.refl _ _) _) _, rfl⟩
   ·
    have HF : Hid (t = true) := by
     show _ = _
     refine HT.out.2 ?_
     have h := HK.out
     rwa [List.take_of_length_le (by omega), List.take_of_length_le (by omega)] at h
    clear hr1 hr2 HK
    go_wp2
    go_ret
    exact ⟨by rw [HF.out]; rfl, fun B => below_drewN (Below.refl _ _) n, rfl⟩
 ·
  have HF : Hid (t = false) := by
   show _ = _
   cases t with
   | false => rfl
   | true => exact absurd (congrArg List.length (HT.out.1 rfl)) hlm
  have dn : ((l.length : Int) == (m.length : Int)) = false := by rw [beq_eq_false_iff_ne]; omega
  clear hr1 hr2 hlm
  go_enter Tryz.func117, Tryz.ntmps117
  go_wp2
  go_ret
  exact ⟨by rw [HF.out]; rfl, fun B => Below.refl _ _, rfl⟩
end Go.Proofs.YtchonoonclllbaaGreatDoor.Cl
namespace Go.Proofs.YtchonoonclllbaaGreatDoor.Sr
open Go.RowKit Go.Proofs.YtchonoonclllbaaGreatDoor.Mem Go.Proofs.YtchonoonclllbaaGreatDoor.Laws Go.Proofs.YtchonoonclllbaaGreatDoor.Bytes Go.Proofs.YtchonoonclllbaaGreatDoor.Sha Go.Proofs.YtchonoonclllbaaGreatDoor.Tr Go.Proofs.YtchonoonclllbaaGreatDoor.He Go.Proofs.YtchonoonclllbaaGreatDoor.Lg
set_option linter.unusedVariables false
set_option linter.unusedSimpArgs false
theorem getC_len (xs : List Int) (a : Int) : (getC xs a).2.1.length ≤ 200 := by
 unfold getC
 split
 ·
  split
  ·
   rename_i h x hi
   split
   ·
    unfold inBody at hi
    split at hi
    ·
     simp only [Option.some.injEq, Prod.mk.injEq] at hi
     rw [← hi.2]
     exact Plain.getTexts_len _ _
    ·
     cases hi
   ·
    exact Nat.zero_le _
  ·
   exact Nat.zero_le _
 ·
  exact Nat.zero_le _
theorem getC_size {xs : List Int} {a : Nat} {h : Hd} {x : List ByteArray} {p : Int} {ok : Bool} (hb : Byt xs) (hg : getC xs (a : Int) = (h, x, p, ok)) : ∀ s ∈ x, s.size ≤ 1000000000 := by
 cases ok
 ·
  have := getC_no (xs := xs) (a := (a : Int)) (by rw [hg])
  rw [hg] at this
  simp only [no12, Prod.mk.injEq] at this
  rw [this.2.1]
  intro s hs
  cases hs
 ·
  obtain ⟨_, _, _, _, _, _, _, hbl, _⟩ := put_get hb hg
  exact fun s hs => Nat.le_trans (size_body (h := h) hs) hbl
theorem ownNil (w : World) (lo hi : Nat) (e : TypeId) : Own w lo hi e (.slice none 0 0) [] := ⟨⟨rfl, Or.inl ⟨rfl, rfl⟩⟩, fun g hg => by simp [Value.ownBlock] at hg⟩
end Go.Proofs.YtchonoonclllbaaGreatDoor.Sr
