/- Chapter 6: the exact laws, over contracts of the landed functions. -/
import Derived.Test.YthbonifpdpknnaaDoorTr8
namespace Go.Proofs.YthbonifpdpknnaaDoor.Tr
open Go.RowKit Go.Proofs.YthbonifpdpknnaaDoor.Mem Go.Proofs.YthbonifpdpknnaaDoor.Laws Go.Proofs.YthbonifpdpknnaaDoor.Bytes Go.Proofs.YthbonifpdpknnaaDoor.Sha
set_option linter.unusedVariables false
set_option linter.unusedSimpArgs false

theorem mem_tot {l : List ByteArray} {s : ByteArray} (h : s ∈ l) : s.size ≤ Puts.tot l := by
  induction l with
  | nil => cases h
  | cons t r ih =>
    have e : Puts.tot (t :: r) = t.size + Puts.tot r := by simp [Puts.tot]
    rw [e]
    rcases List.mem_cons.1 h with rfl | h
    · omega
    · have := ih h; omega
theorem inPath_len (l : List ByteArray) (i : Int) : (inPath l i).length ≤ 1000 := by
  unfold inPath
  split
  · rename_i h
    rw [path_len]
    have := dep_le l.length i.toNat
    omega
  · simp
theorem growPath_len (l : List ByteArray) (n : Int) : (growPath l n).length ≤ 1000 := by
  unfold growPath
  split
  · rename_i h
    rw [grow_len]
    have := gdep_le l.length n.toNat true
    omega
  · simp

set_option maxRecDepth 1000000 in
set_option maxHeartbeats 1000000 in
theorem exact_leaf (w : World) (s : ByteArray) (hm : s.size ≤ maxLen)
    (iF : ∀ W, Below w.heap.size w W → s.size ≤ 1048576 → Calls Tryd.prog 16 #[.string s] W fun e w' => e = .returned (.string (leafH s)) ∧ Below W.heap.size W w') :
    Calls Tryd.prog 8 #[.string s] w fun e w' => e = .returned (.bool true) ∧ Below w.heap.size w w' := by
  unfold maxLen at hm
  by_cases hbig : 1048576 < s.size
  · have hb : (1048576 : Int) < (s.size : Int) := by omega
    clear iF
    go_enter Tryd.func8, Tryd.ntmps8
    go_wp2
    go_ret
    exact ⟨rfl, Below.refl _ _⟩
  · have hb : ¬ (1048576 : Int) < (s.size : Int) := by omega
    have q1 := leaf_spec w s (by omega)
    have q2 : ∀ W, Below w.heap.size w W → _ := fun W hW => iF W hW (by omega)
    obtain ⟨x, hx⟩ : ∃ x, leafH s = x := ⟨_, rfl⟩
    simp only [hx] at q1 q2
    clear hx iF
    go_enter Tryd.func8, Tryd.ntmps8
    go_wp2_with fail
    refine q1.mono ?_
    rintro e W1 ⟨rfl, b1⟩
    go_wp2_with fail
    refine (q2 _ b1).mono ?_
    rintro e W2 ⟨rfl, b2⟩
    have B2 : Below w.heap.size w W2 := b1.trans (b2.mono b1.size)
    go_wp2
    go_ret
    exact ⟨rfl, B2⟩

end Go.Proofs.YthbonifpdpknnaaDoor.Tr
