/- Chapter 10, the laws' helpers: a head's size, its turning, whether two are the same; lists of heads. -/
import Derived.Test.YtccnhhdcdamgmabDoorHe1
import Derived.Test.YtccnhhdcdamgmabDoorStrs
namespace Go.Proofs.YtccnhhdcdamgmabDoor.He
open Go.RowKit Go.Proofs.YtccnhhdcdamgmabDoor.Mem Go.Proofs.YtccnhhdcdamgmabDoor.Laws Go.Proofs.YtccnhhdcdamgmabDoor.Bytes Go.Proofs.YtccnhhdcdamgmabDoor.Sha Go.Proofs.YtccnhhdcdamgmabDoor.Tr
set_option linter.unusedVariables false
set_option linter.unusedSimpArgs false

theorem keepH {W W' : World} {p : Addr} {x : Value} (h : W.cell? p = some x) (b : Below W.heap.size W W') : W'.cell? p = some x := by
  rw [b.cell (World.block_lt_of_cell? W p h)]; exact h

set_option maxRecDepth 1000000 in
set_option maxHeartbeats 1000000 in
theorem to_head (w : World) (h : Hd) :
    Calls Tryd.prog 19 #[.agg #[.int .i64 h.n, .string h.r]] w fun e w' => e = .returned (.agg #[.int .i64 h.n, .string h.r]) ∧ Below w.heap.size w w' := by
  have HB : Hid (Below w.heap.size w (((w.alloc (.cells #[.int .i64 h.n, .string h.r] 24)).alloc (.cells #[.int .i64 0, .string ⟨#[]⟩] 30)).alloc (.cells #[.int .i64 h.n, .string h.r] 30))) := (((Below.refl _ _).alloc (Nat.le_refl _) _).alloc (by simp) _).alloc (by simp; omega) _
  have HR1 : Hid ((((w.alloc (.cells #[.int .i64 h.n, .string h.r] 24)).alloc (.cells #[.int .i64 0, .string ⟨#[]⟩] 30)).alloc (.cells #[.int .i64 h.n, .string h.r] 30)).heap[w.heap.size + 1]? = some (.cells #[.int .i64 0, .string ⟨#[]⟩] 30 (0, 0))) := by
    show _ = _
    rw [heap_alloc_old _ _ (by simp)]
    have := heap_alloc_new (w.alloc (.cells #[.int .i64 h.n, .string h.r] 24)) (.cells #[.int .i64 0, .string ⟨#[]⟩] 30)
    simpa using this
  have HR2 : Hid ((((w.alloc (.cells #[.int .i64 h.n, .string h.r] 24)).alloc (.cells #[.int .i64 0, .string ⟨#[]⟩] 30)).alloc (.cells #[.int .i64 h.n, .string h.r] 30)).heap[w.heap.size + 1 + 1]? = some (.cells (hc h) 30 (0, 0))) := by
    show _ = _
    have := heap_alloc_new ((w.alloc (.cells #[.int .i64 h.n, .string h.r] 24)).alloc (.cells #[.int .i64 0, .string ⟨#[]⟩] 30)) (.cells #[.int .i64 h.n, .string h.r] 30)
    simpa [hc] using this
  go_enter Tryd.func19, Tryd.ntmps19
  go_wp2_with (first | (refine wpList_load_row rfl 30 _ rfl (w.heap.size + 1 + 1) rfl 30 (hc h) (0, 0) _ HR2.out Tryd.underlying30 rfl (sizeH h) ?_) | (refine wpList_store_row rfl 30 _ _ rfl (w.heap.size + 1) (hc h) rfl rfl 30 _ HR1.out (sizeH h) rfl (oneH h) ?_))
  exact bodyPost_ret (v := .agg (hc h)) (results_cell_row rfl _ _ (w.heap.size + 1) 30 _ (0, 0) _ rfl (setRow_heap _ _ _ _ _ (0, 0) HR1.out) Tryd.underlying30 rfl (sizeH h)) rfl ⟨rfl, below_setRow HB.out (by omega) _⟩

set_option maxRecDepth 1000000 in
set_option maxHeartbeats 1000000 in
theorem sz_head (w : World) (n : Hd) (left : Int) (hp : n.r.size ≤ 9223372036854775807) (h0 : 0 ≤ left) (h1 : left ≤ 1048576) :
    Calls Tryd.prog 14 #[.agg #[.int .i64 n.n, .string n.r], .int .i64 left] w fun e w' => e = .returned (.int .i64 (if left - n.r.size < 0 then -1 else left - n.r.size)) ∧ Below w.heap.size w w' := by
  have HB : Hid (Below w.heap.size w (w.alloc (.cells #[.int .i64 n.n, .string n.r] 24))) := (Below.refl _ _).alloc (Nat.le_refl _) _
  by_cases hb : left - (n.r.size : Int) < 0
  · have HN : Hid ((if left - n.r.size < 0 then -1 else left - n.r.size) = (-1 : Int)) := by show _ = _; rw [if_pos hb]
    go_enter Tryd.func14, Tryd.ntmps14
    go_wp2
    go_ret
    exact ⟨by first | rfl | (rw [HN.out]; rfl), HB.out⟩
  · have HN : Hid ((if left - n.r.size < 0 then -1 else left - n.r.size) = left - n.r.size) := by show _ = _; rw [if_neg hb]
    go_enter Tryd.func14, Tryd.ntmps14
    go_wp2
    go_ret
    exact ⟨by first | rfl | (rw [HN.out]; rfl), HB.out⟩

theorem infoH : (Tryd.prog.info? 30).map (fun i => (i.zero, i.size, i.bytes)) = some (some (.agg #[.int .i64 0, .string ⟨#[]⟩]), 2, 24) := by kernel_rfl

set_option maxRecDepth 1000000 in
set_option maxHeartbeats 1000000 in
theorem eq_head (w : World) (h : Hd) :
    Calls Tryd.prog 22 #[.agg #[.int .i64 h.n, .string h.r], .agg #[.int .i64 h.n, .string h.r]] w fun e w' => e = .returned (.bool true) ∧ Below w.heap.size w w' := by
  have HB : Hid (Below w.heap.size w ((w.alloc (.cells #[.int .i64 h.n, .string h.r] 30)).alloc (.cells #[.int .i64 h.n, .string h.r] 30))) := ((Below.refl _ _).alloc (Nat.le_refl _) _).alloc (by simp) _
  have n1 : (h.r.toList == h.r.toList) = true := by simp
  have n2 : (h.n != h.n) = false := by simp
  go_enter Tryd.func22, Tryd.ntmps22
  go_wp2
  go_ret
  exact ⟨rfl, HB.out⟩

end Go.Proofs.YtccnhhdcdamgmabDoor.He
