/- The laws' helpers of chapter 3: a version's size, its turning, whether two are the same. -/
import Derived.Test.YtnoopfpgkgjdcalVer9
namespace Go.Proofs.Ytnoopfpgkgjdcal.Ver
open Go.RowKit Go.Proofs.Ytnoopfpgkgjdcal.Mem Go.Proofs.Ytnoopfpgkgjdcal.Laws Go.Proofs.Ytnoopfpgkgjdcal.Bytes Go.Proofs.Ytnoopfpgkgjdcal.Sha
set_option linter.unusedVariables false
set_option linter.unusedSimpArgs false

set_option maxRecDepth 1000000 in
theorem sz_any (w : World) (a b c : Int) (p : ByteArray) (n : Int) (hp : p.size ≤ 9223372036854775807) (h0 : 0 ≤ n) (h1 : n ≤ 1048576) :
    Calls Try.prog 11 #[ver a b c p, .int .i64 n] w fun e w' => e = .returned (.int .i64 (if n - p.size < 0 then -1 else n - p.size)) ∧ Below w.heap.size w w' := by
  have HB : Hid (Below w.heap.size w (w.alloc (.cells #[.int .i64 a, .int .i64 b, .int .i64 c, .string p] 25))) := (Below.refl _ _).alloc (Nat.le_refl _) _
  unfold ver
  by_cases h : n - (p.size : Int) < 0
  · rw [if_pos h]
    go_enter Try.func11, Try.ntmps11
    go_wp2
    go_ret
    exact ⟨rfl, HB.out⟩
  · rw [if_neg h]
    go_enter Try.func11, Try.ntmps11
    go_wp2
    go_ret
    exact ⟨rfl, HB.out⟩

theorem sizeL (a b c : Int) (p : ByteArray) : (Try.prog.info? 25).map (·.size) = some (vc a b c p).size := by
  show _ = some 4
  kernel_rfl
theorem rowStay {w w' : World} {g : Nat} {o : Obj} (h : w.heap[g]? = some o) (hb : Below w.heap.size w w') : w'.heap[g]? = some o := (hb.block g (Array.getElem?_eq_some_iff.1 h).1).trans h
theorem midV (w : World) (A B C : Obj) : (((w.alloc A).alloc B).alloc C).heap[w.heap.size + 1]? = some B := by
  rw [heap_alloc_old ((w.alloc A).alloc B) C (show w.heap.size + 1 < ((w.alloc A).alloc B).heap.size by show _ < ((w.heap.push A).push B).size; simp)]
  exact heap_alloc2_new w A B

set_option maxRecDepth 1000000 in
set_option maxHeartbeats 1000000 in
theorem to_ver (w : World) (a b c : Int) (p : ByteArray) :
    Calls Try.prog 13 #[ver a b c p] w fun e w' => e = .returned (ver a b c p) ∧ Below w.heap.size w w' := by
  unfold ver
  go_enter Try.func13, Try.ntmps13
  go_wp2
  exact bodyPost_ret (v := .agg (vc a b c p)) (results_cell_row rfl _ _ (w.heap.size + 1) 28 _ (0, 0) _ rfl (midV w _ _ _) Try.underlying28 rfl (sizeV a b c p)) rfl ⟨rfl, (((Below.refl _ _).alloc (Nat.le_refl _) _).alloc (by simp) _).alloc (by simp; omega) _⟩

end Go.Proofs.Ytnoopfpgkgjdcal.Ver
