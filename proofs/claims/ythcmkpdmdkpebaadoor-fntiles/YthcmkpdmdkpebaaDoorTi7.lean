/- Chapter 9, the landed code: a tile as an array of four nodes; joined and paired. -/
import Derived.Test.YthcmkpdmdkpebaaDoorTi1
import Derived.Test.YthcmkpdmdkpebaaDoorTsC
import Derived.Test.YthcmkpdmdkpebaaDoorRow2
import Derived.ChangeKeysEq
namespace Go.Proofs.YthcmkpdmdkpebaaDoor.Ti
open Go.RowKit Go.Proofs.YthcmkpdmdkpebaaDoor.Mem Go.Proofs.YthcmkpdmdkpebaaDoor.Laws Go.Proofs.YthcmkpdmdkpebaaDoor.Bytes Go.Proofs.YthcmkpdmdkpebaaDoor.Sha Go.Proofs.YthcmkpdmdkpebaaDoor.Tr
set_option linter.unusedVariables false
set_option linter.unusedSimpArgs false

/-- a node: its text, and whether it is there -/
structure No where
  s : ByteArray
  p : Bool
/-- none -/
def no0 : No := ⟨⟨#[]⟩, false⟩
/-- two nodes joined -/
def jn (x y : No) : No := if y.p then ⟨nodeH x.s y.s, true⟩ else x
/-- a node's cells, and those of a tile -/
def c2 (x : No) : Array Value := #[.string x.s, .bool x.p]
def t4 (x0 x1 x2 x3 : No) : Array Value := #[.string x0.s, .bool x0.p, .string x1.s, .bool x1.p, .string x2.s, .bool x2.p, .string x3.s, .bool x3.p]
theorem size2 (x : No) : (Tryd.prog.info? 39).map (·.size) = some (c2 x).size := by show _ = some 2; kernel_rfl
theorem one2 (x : No) : (c2 x).all (·.oneCell') = true := by simp [c2, Value.oneCell']
theorem size8t (x0 x1 x2 x3 : No) : (Tryd.prog.info? 41).map (·.size) = some (t4 x0 x1 x2 x3).size := by show _ = some 8; kernel_rfl
theorem one8 (x0 x1 x2 x3 : No) : (t4 x0 x1 x2 x3).all (·.oneCell') = true := by simp [t4, Value.oneCell']
theorem info39 : (Tryd.prog.info? 39).map (fun i => (i.zero, i.size)) = some (some (.agg #[.string ⟨#[]⟩, .bool false]), 2) := by kernel_rfl

set_option maxRecDepth 1000000 in
set_option maxHeartbeats 1000000 in
theorem joined_impl (w : World) (x y : No) (hG : Glob w) (hx : x.s.size ≤ 100000000000) (hy : y.s.size ≤ 100000000000) :
    Calls Tryd.prog 40 #[.agg #[.string x.s, .bool x.p], .agg #[.string y.s, .bool y.p]] w fun e w' => e = .returned (.agg #[.string (jn x y).s, .bool (jn x y).p]) ∧ Below w.heap.size w w' := by
  obtain ⟨a, p⟩ := x
  obtain ⟨b, q⟩ := y
  obtain ⟨W, hW⟩ : ∃ W, W = ((w.alloc (.cells #[.string a, .bool p] 39)).alloc (.cells #[.string b, .bool q] 39)).alloc (.cells #[.string ⟨#[]⟩, .bool false] 39) := ⟨_, rfl⟩
  have HB : Hid (Below w.heap.size w W) := by
    show Below _ _ _
    rw [hW]
    exact (((Below.refl _ _).alloc (Nat.le_refl _) _).alloc (by simp) _).alloc (by simp; omega) _
  have HR0 : Hid (W.heap[w.heap.size]? = some (.cells (c2 ⟨a, p⟩) 39 (0, 0))) := by
    show _ = _
    rw [hW, heap_alloc_old _ _ (by simp; omega)]
    exact heap_alloc2_old w _ _
  have HR2 : Hid (W.heap[w.heap.size + 1 + 1]? = some (.cells (c2 no0) 39 (0, 0))) := by
    show _ = _
    rw [hW]
    exact third_new w _ _ _
  have HG : Hid (Glob W) := hG.later HB.out
  cases q with
  | false =>
    have HW : Hid (W = _) := hW
    clear hW
    simp only [jn, Bool.false_eq_true, if_false]
    go_enter Tryd.func40, Tryd.ntmps40
    go_wp2_with (first | (rw [← HW.out]; refine wpList_load_row rfl 39 _ rfl w.heap.size rfl 39 (c2 ⟨a, p⟩) (0, 0) _ HR0.out Tryd.underlying39 rfl (size2 _) ?_) | (refine wpList_store_row rfl 39 _ _ rfl (w.heap.size + 1 + 1) (c2 ⟨a, p⟩) rfl rfl 39 _ HR2.out (size2 _) rfl (one2 _) ?_))
    exact bodyPost_ret (v := .agg (c2 ⟨a, p⟩)) (results_cell_row rfl _ _ (w.heap.size + 1 + 1) 39 _ (0, 0) _ rfl (setRow_heap _ _ _ _ _ (0, 0) HR2.out) Tryd.underlying39 rfl (size2 _)) rfl ⟨rfl, below_setRow HB.out (by omega) _⟩
  | true =>
    simp only [jn, if_true]
    have q := node_impl W a b HG.out hx hy
    obtain ⟨d, hd⟩ : ∃ d, nodeH a b = d := ⟨_, rfl⟩
    rw [hd] at q ⊢
    rw [hW] at q
    have HW : Hid (W = _) := hW
    clear hW hd
    go_enter Tryd.func40, Tryd.ntmps40
    go_wp2_with fail
    refine q.mono ?_
    rw [← HW.out]
    rintro e w1 ⟨rfl, b1⟩
    have R1 := rowKeep HR2.out b1
    have B1 : Below w.heap.size w w1 := HB.out.trans (b1.mono HB.out.size)
    clear q HR2 HR0 b1
    go_wp2_with (refine wpList_store_row rfl 39 _ _ rfl (w.heap.size + 1 + 1) (c2 ⟨d, true⟩) rfl rfl 39 _ R1 (size2 _) rfl (one2 _) ?_)
    exact bodyPost_ret (v := .agg (c2 ⟨d, true⟩)) (results_cell_row rfl _ _ (w.heap.size + 1 + 1) 39 _ (0, 0) _ rfl (setRow_heap _ _ _ _ _ (0, 0) R1) Tryd.underlying39 rfl (size2 _)) rfl ⟨rfl, below_setRow B1 (by omega) _⟩

theorem jn_size (x y : No) (hx : x.s.size ≤ 100000000000) : (jn x y).s.size ≤ 100000000000 := by
  unfold jn
  split
  · show (nodeH _ _).size ≤ _
    rw [nodeH_size]
    omega
  · exact hx

end Go.Proofs.YthcmkpdmdkpebaaDoor.Ti
