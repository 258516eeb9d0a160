/- Chapter 4: what a range over an iterator keeps; paths told by their parts. -/
import Derived.RangeFuncNested
import Derived.RangeFuncBound
import Derived.RangeFuncCalls
import Derived.RangeFuncLeaves
import Derived.Shelf.Abstract
import Derived.Shelf.RegionOpen
import Derived.WalkKit
import Derived.OwnWalkIn
import Derived.TacticsInMore
import Derived.LoopNIn
import Derived.LoopIn
import Derived.Test.YtnoopfpgkgjdcalMod4
namespace Go.Proofs.Ytnoopfpgkgjdcal.Mod
open Go.RowKit Go.Shelf Go.Proofs.Ytnoopfpgkgjdcal.Mem Go.Proofs.Ytnoopfpgkgjdcal.Laws Go.Proofs.Ytnoopfpgkgjdcal.Bytes Go.Proofs.Ytnoopfpgkgjdcal.Sha Go.Proofs.Ytnoopfpgkgjdcal.Ver
set_option linter.unusedVariables false
set_option linter.unusedSimpArgs false
attribute [local go_sem] Oper.semAt_some

/-- a text that is no longer than a path may be -/
abbrev T60 := { t : ByteArray // t.size ≤ 60 }
/-- what a round keeps for the iterator: the box of its text, and its walk -/
def Kp (b : Nat) (A B : World) : Prop := (∀ t v, Boxed A b t v → Boxed B b t v) ∧ KeepsWalks A B
theorem Kp_t {b : Nat} {A B C : World} (h : Kp b A B) (k : Kp b B C) : Kp b A C := ⟨fun t v hv => k.1 t v (h.1 t v hv), h.2.trans k.2⟩
theorem Kp_b {b : Nat} {w : World} (W : World) (l : Nat) (o o' : Obj) (hl : w.heap.size ≤ l) (h : W.heap[l]? = some o) (h1 : o.isCells = false) (h2 : o.isWalk = false) : Kp b W (W.putObj l o') := by
  refine ⟨fun t v hv => ?_, walksK_b (w := w) W l o o' hl h h1 h2⟩
  unfold Boxed at hv ⊢
  by_cases e : b = l
  · subst e
    rw [h] at hv
    cases hv
    cases h1
  · rw [World.putObj_heap_other e]
    exact hv
theorem Boxed.same {b t : Nat} {v : Value} {A B : World} (hv : Boxed A b t v) (h : Below A.heap.size A B) : Boxed B b t v := (h.block b hv.lt).trans hv
theorem Kp_below {b : Nat} {A B : World} (h : Below A.heap.size A B) : Kp b A B :=
  ⟨fun t v hv => Boxed.same hv h, ⟨h.size, fun k o hk _ => (h.block k (Array.getElem?_eq_some_iff.1 hk).1).trans hk⟩⟩
theorem Kp_set {b g : Nat} (A : World) (v : Value) (hne : b ≠ g) : Kp b A (A.setCell ⟨g, 0, none⟩ v) := ⟨fun t u hu => Boxed.other hu hne v, KeepsWalks.setCell _ _ _⟩
theorem others_below {A B : World} (h : Below A.heap.size A B) : KeepsOthers A B := ⟨h.size, fun k o hk _ => (h.block k (Array.getElem?_eq_some_iff.1 hk).1).trans hk⟩

def bad4 (pre : List T60) : Prop := 6 < pre.length ∨ ∃ t ∈ pre, part4 (sb t.1) = false
theorem bad4_path {s : ByteArray} {pre : List T60} (h : bad4 pre) (hp : pre.map (·.1) <+: splitT 47 s) : path4 (sb s) = false := by
  have hT := splitT_sb 47 s
  have hl : (split 47 (sb s)).length = (splitT 47 s).length := by rw [← hT, List.length_map]
  have hpl := hp.length_le
  rw [List.length_map] at hpl
  unfold path4
  rcases h with h | ⟨t, ht, hb⟩
  · have : ¬ (split 47 (sb s)).length ≤ 6 := by omega
    simp [this]
  · have : (split 47 (sb s)).all part4 = false := by
      rw [List.all_eq_false]
      refine ⟨sb t.1, ?_, by simp [hb]⟩
      rw [← hT]
      exact List.mem_map.2 ⟨t.1, hp.subset (List.mem_map.2 ⟨t, ht, rfl⟩), rfl⟩
    simp [this]
theorem good4_path {s : ByteArray} {xs : List T60} (hs : s.size ≤ 60) (h : xs.map (·.1) = splitT 47 s) (h6 : xs.length ≤ 6) (hg : ∀ t ∈ xs, part4 (sb t.1) = true) : path4 (sb s) = true := by
  have hT := splitT_sb 47 s
  have hl : (split 47 (sb s)).length = xs.length := by rw [← hT, List.length_map, ← h, List.length_map]
  unfold path4
  have h1 : (split 47 (sb s)).all part4 = true := by
    rw [← hT, ← h, List.all_eq_true]
    intro x hx
    simp only [List.map_map, List.mem_map] at hx
    obtain ⟨t, ht, rfl⟩ := hx
    exact hg t ht
  rw [h1, hl, sb_len]
  simp [h6, hs]

end Go.Proofs.Ytnoopfpgkgjdcal.Mod
