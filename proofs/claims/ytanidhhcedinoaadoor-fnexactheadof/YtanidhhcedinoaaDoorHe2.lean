/- Chapter 10, the laws' helpers: a head's size, its turning, whether two are the same; lists of heads. -/
import Derived.Test.YtanidhhcedinoaaDoorHe1
import Derived.Test.YtanidhhcedinoaaDoorStrs
namespace Go.Proofs.YtanidhhcedinoaaDoor.He
open Go.RowKit Go.Proofs.YtanidhhcedinoaaDoor.Mem Go.Proofs.YtanidhhcedinoaaDoor.Laws Go.Proofs.YtanidhhcedinoaaDoor.Bytes Go.Proofs.YtanidhhcedinoaaDoor.Sha Go.Proofs.YtanidhhcedinoaaDoor.Tr
set_option linter.unusedVariables false
set_option linter.unusedSimpArgs false

theorem keepH {W W' : World} {p : Addr} {x : Value} (h : W.cell? p = some x) (b : Below W.heap.size W W') : W'.cell? p = some x := by
  rw [b.cell (World.block_lt_of_cell? W p h)]; exact h

theorem infoH : (Tryd.prog.info? 25).map (fun i => (i.zero, i.size, i.bytes)) = some (some (.agg #[.int .i64 0, .string ⟨#[]⟩]), 2, 24) := by kernel_rfl

set_option maxRecDepth 1000000 in
set_option maxHeartbeats 1000000 in
theorem eq_head (w : World) (h : Hd) :
    Calls Tryd.prog 8 #[.agg #[.int .i64 h.n, .string h.r], .agg #[.int .i64 h.n, .string h.r]] w fun e w' => e = .returned (.bool true) ∧ Below w.heap.size w w' := by
  have HB : Hid (Below w.heap.size w ((w.alloc (.cells #[.int .i64 h.n, .string h.r] 25)).alloc (.cells #[.int .i64 h.n, .string h.r] 25))) := ((Below.refl _ _).alloc (Nat.le_refl _) _).alloc (by simp) _
  have n1 : (h.r.toList == h.r.toList) = true := by simp
  have n2 : (h.n != h.n) = false := by simp
  go_enter Tryd.func8, Tryd.ntmps8
  go_wp2
  go_ret
  exact ⟨rfl, HB.out⟩

end Go.Proofs.YtanidhhcedinoaaDoor.He
