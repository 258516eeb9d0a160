/- Chapter 10: the head of texts (the specification's side). -/
import Derived.Test.YteemblfjghnooaaHe3
namespace Go.Proofs.Yteemblfjghnooaa.He
open Go.RowKit Go.Proofs.Yteemblfjghnooaa.Mem Go.Proofs.Yteemblfjghnooaa.Laws Go.Proofs.Yteemblfjghnooaa.Bytes Go.Proofs.Yteemblfjghnooaa.Sha Go.Proofs.Yteemblfjghnooaa.Tr
set_option linter.unusedVariables false
set_option linter.unusedSimpArgs false

set_option maxRecDepth 1000000 in
set_option maxHeartbeats 1000000 in
theorem headOf_spec (w : World) (v : Value) (l : List ByteArray) (h : Sl w v (ss l)) (hl : l.length ≤ 1000000000000) (hz : ∀ s ∈ l, s.size ≤ 10000000000) :
    Calls Try.prog 59 #[v] w fun e w' => e = .returned (.agg #[.int .i64 (headOf l).n, .string (headOf l).r]) ∧ Below w.heap.size w w' := by
  have HR : Hid ((w.alloc (.cells #[.int .i64 0, .string ⟨#[]⟩] 25)).heap[w.heap.size]? = some (.cells (hc hd0) 25 (0, 0))) := heap_alloc_new w _
  have HB : Hid (Below w.heap.size w (w.alloc (.cells #[.int .i64 0, .string ⟨#[]⟩] 25))) := (Below.refl _ _).alloc (Nat.le_refl _) _
  by_cases h2 : l.length ≤ 200
  · have q := root_any l.length l (Nat.le_refl _) (w.alloc (.cells #[.int .i64 0, .string ⟨#[]⟩] 25)) v (h.later HB.out) (by omega) hz
    obtain ⟨M, hM⟩ : ∃ M, headOf l = M := ⟨_, rfl⟩
    have hM2 : M = ⟨l.length, root l⟩ := by rw [← hM]; unfold headOf; rw [if_pos h2]
    obtain ⟨ao, cap, rfl, hcap, _⟩ := h
    have d2 : ¬ (200 : Int) < (l.length : Int) := by omega
    obtain ⟨x, hx⟩ : ∃ x, root l = x := ⟨_, rfl⟩
    rw [hx] at q hM2
    rw [hM, hM2]
    rw [ss_len] at *
    clear hx hM hM2 hz
    go_enter Try.func59, Try.ntmps59
    go_wp2_with fail
    refine q.mono ?_
    rintro e w1 ⟨rfl, b1⟩
    have R1 := rowKeep HR.out b1
    have B1 : Below w.heap.size w w1 := HB.out.trans (b1.mono HB.out.size)
    clear q HR b1
    go_wp2_with (refine wpList_store_row rfl 25 _ _ rfl w.heap.size (hc (⟨(l.length : Int), x⟩ : Hd)) rfl rfl 25 _ R1 (sizeH (⟨(l.length : Int), x⟩ : Hd)) rfl (oneH (⟨(l.length : Int), x⟩ : Hd)) ?_)
    exact bodyPost_ret (v := .agg (hc ⟨(l.length : Int), x⟩)) (results_cell_row rfl _ _ w.heap.size 25 _ (0, 0) _ rfl (setRow_heap _ _ _ _ _ (0, 0) R1) Try.underlying25 rfl (sizeH _)) rfl ⟨rfl, below_setRow B1 (Nat.le_refl _) _⟩
  · have d2 : (200 : Int) < (l.length : Int) := by omega
    have hM : headOf l = hd0 := by unfold headOf; rw [if_neg h2]
    rw [hM]
    obtain ⟨ao, cap, rfl, hcap, _⟩ := h
    rw [ss_len]
    clear hz hM
    go_enter Try.func59, Try.ntmps59
    go_wp2_with (refine wpList_store_row rfl 25 _ _ rfl w.heap.size (hc hd0) rfl rfl 25 _ HR.out (sizeH hd0) rfl (oneH hd0) ?_)
    exact bodyPost_ret (v := .agg (hc hd0)) (results_cell_row rfl _ _ w.heap.size 25 _ (0, 0) _ rfl (setRow_heap _ _ _ _ _ (0, 0) HR.out) Try.underlying25 rfl (sizeH hd0)) rfl ⟨rfl, below_setRow HB.out (Nat.le_refl _) _⟩

theorem headOf_size (l : List ByteArray) : (headOf l).r.size ≤ 32 := by
  unfold headOf
  split
  · simp only [root_size]; exact Nat.le_refl _
  · exact Nat.zero_le _

end Go.Proofs.Yteemblfjghnooaa.He
