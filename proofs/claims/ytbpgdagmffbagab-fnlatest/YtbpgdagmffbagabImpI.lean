/- Chapter 3, the landed code: which of two versions is less. -/
import Derived.Test.YtbpgdagmffbagabImpH
import Derived.Test.YtbpgdagmffbagabVer8
namespace Go.Proofs.Ytbpgdagmffbagab.Ver
open Go.RowKit Go.Proofs.Ytbpgdagmffbagab.Mem Go.Proofs.Ytbpgdagmffbagab.Laws Go.Proofs.Ytbpgdagmffbagab.Bytes Go.Proofs.Ytbpgdagmffbagab.Sha
set_option linter.unusedVariables false
set_option linter.unusedSimpArgs false

theorem orCall (W : World) (x1 x2 x3 x4 z : Int) (hz : orL [x1, x2, x3, x4] = z) : Calls Try.prog 27 #[.slice (some ⟨W.heap.size, 0, none⟩) 4 4] (W.alloc (.cells #[.int .i64 x1, .int .i64 x2, .int .i64 x3, .int .i64 x4] 3))
    fun e w' => e = .returned (.int .i64 z) ∧ w' = (W.alloc (.cells #[.int .i64 x1, .int .i64 x2, .int .i64 x3, .int .i64 x4] 3)) := by
  have hsl : Sl (W.alloc (.cells #[.int .i64 x1, .int .i64 x2, .int .i64 x3, .int .i64 x4] 3)) (.slice (some ⟨W.heap.size, 0, none⟩) 4 4) (is64 [x1, x2, x3, x4]) := by
    refine ⟨some ⟨W.heap.size, 0, none⟩, 4, rfl, Nat.le_refl _, fun h => (by cases h), fun _ => ⟨W.heap.size, 0, rfl, fun j hj => ?_⟩⟩
    rw [Nat.zero_add, cell_of_row _ W.heap.size j #[.int .i64 x1, .int .i64 x2, .int .i64 x3, .int .i64 x4] 3 (0, 0) (heap_alloc_new W _)]
    simp [is64]
  refine (or_impl _ _ _ hsl (by simp)).mono ?_
  rintro e w' ⟨rfl, rfl⟩
  exact ⟨by rw [hz], rfl⟩

set_option maxRecDepth 1000000 in
set_option maxHeartbeats 2000000 in
theorem cver_impl (w : World) (a1 b1 c1 : Int) (p1 : ByteArray) (a2 b2 c2 : Int) (p2 : ByteArray) (h1 : p1.size ≤ 1000000000000) (h2 : p2.size ≤ 1000000000000) :
    Calls Try.prog 18 #[ver a1 b1 c1 p1, ver a2 b2 c2 p2] w fun e w' => e = .returned (.int .i64 (cmpV a1 b1 c1 p1 a2 b2 c2 p2)) ∧ Below w.heap.size w w' := by
  unfold ver
  obtain ⟨z, hz⟩ : ∃ z, cmpV a1 b1 c1 p1 a2 b2 c2 p2 = z := ⟨_, rfl⟩
  rw [hz]
  unfold cmpV at hz
  obtain ⟨x1, hx1⟩ : ∃ z, cmpI a1 a2 = z := ⟨_, rfl⟩
  obtain ⟨x2, hx2⟩ : ∃ z, cmpI b1 b2 = z := ⟨_, rfl⟩
  obtain ⟨x3, hx3⟩ : ∃ z, cmpI c1 c2 = z := ⟨_, rfl⟩
  obtain ⟨x4, hx4⟩ : ∃ z, cmpPre p1 p2 = z := ⟨_, rfl⟩
  have q1 := fun W => compare_int W a1 a2
  have q2 := fun W => compare_int W b1 b2
  have q3 := fun W => compare_int W c1 c2
  have q4 := fun W => cpre_impl W p1 p2 h1 h2
  rw [hx1] at hz q1
  rw [hx2] at hz q2
  rw [hx3] at hz q3
  rw [hx4] at hz q4
  have q5 := fun W => orCall W x1 x2 x3 x4 z hz
  have f0 : Vr ((w.alloc (.cells #[.int .i64 a1, .int .i64 b1, .int .i64 c1, .string p1] 25)).alloc (.cells #[.int .i64 a2, .int .i64 b2, .int .i64 c2, .string p2] 25)) w.heap.size a1 b1 c1 p1 := heap_alloc2_old w _ _
  have f1 : Vr ((w.alloc (.cells #[.int .i64 a1, .int .i64 b1, .int .i64 c1, .string p1] 25)).alloc (.cells #[.int .i64 a2, .int .i64 b2, .int .i64 c2, .string p2] 25)) (w.heap.size + 1) a2 b2 c2 p2 := heap_alloc2_new w _ _
  obtain ⟨y0, y1, y2, y3⟩ := Vr.cells f0
  obtain ⟨z0, z1, z2, z3⟩ := Vr.cells f1
  have HB : Hid (Below w.heap.size w ((w.alloc (.cells #[.int .i64 a1, .int .i64 b1, .int .i64 c1, .string p1] 25)).alloc (.cells #[.int .i64 a2, .int .i64 b2, .int .i64 c2, .string p2] 25))) := ((Below.refl _ _).alloc (Nat.le_refl _) _).alloc (by simp) _
  clear hx1 hx2 hx3 hx4 hz f0 f1
  go_enter Try.func18, Try.ntmps18
  go_wp2_with fail
  go_region_held3 (fun w' => w'.cell? ⟨w.heap.size, 0, none⟩ = some (.int .i64 a1) ∧ w'.cell? ⟨w.heap.size, 1, none⟩ = some (.int .i64 b1) ∧ w'.cell? ⟨w.heap.size, 2, none⟩ = some (.int .i64 c1) ∧ w'.cell? ⟨w.heap.size, 3, none⟩ = some (.string p1) ∧ w'.cell? ⟨w.heap.size + 1, 0, none⟩ = some (.int .i64 a2) ∧ w'.cell? ⟨w.heap.size + 1, 1, none⟩ = some (.int .i64 b2) ∧ w'.cell? ⟨w.heap.size + 1, 2, none⟩ = some (.int .i64 c2) ∧ w'.cell? ⟨w.heap.size + 1, 3, none⟩ = some (.string p2))
    (first | go_keep | (go_split_ands; refine ⟨keepCell ?_ bb5, keepCell ?_ bb5, keepCell ?_ bb5, keepCell ?_ bb5, keepCell ?_ bb5, keepCell ?_ bb5, keepCell ?_ bb5, keepCell ?_ bb5⟩ <;> assumption))
    (first | (go_at_call_of 28 a1; refine (q1 _).mono ?_; rintro e w' ⟨rfl, rfl⟩) | (go_at_call_of 28 b1; refine (q2 _).mono ?_; rintro e w' ⟨rfl, rfl⟩) | (go_at_call_of 28 c1; refine (q3 _).mono ?_; rintro e w' ⟨rfl, rfl⟩) | (go_at_call 29; refine (q4 _).mono ?_; rintro e5 w5 ⟨rfl, bb5⟩) | (go_at_call 27; refine (q5 _).mono ?_; rintro e6 w6 ⟨rfl, rfl⟩))
  have B1 := HB.out
  have B5 : Below w.heap.size w w5 := (Below.drew B1).trans (bb5.mono B1.size)
  have B6 := B5.alloc B5.size (.cells #[.int .i64 x1, .int .i64 x2, .int .i64 x3, .int .i64 x4] 3)
  clear y0 y1 y2 y3 z0 z1 z2 z3 q1 q2 q3 q4 q5 B1 B5 bb5
  go_wp2
  go_ret
  exact ⟨rfl, B6⟩

set_option maxRecDepth 1000000 in
set_option maxHeartbeats 1000000 in
theorem less_impl (w : World) (a1 b1 c1 : Int) (p1 : ByteArray) (a2 b2 c2 : Int) (p2 : ByteArray) (h1 : p1.size ≤ 1000000000000) (h2 : p2.size ≤ 1000000000000) :
    Calls Try.prog 7 #[ver a1 b1 c1 p1, ver a2 b2 c2 p2] w fun e w' => e = .returned (.bool (decide (cmpV a1 b1 c1 p1 a2 b2 c2 p2 < 0))) ∧ Below w.heap.size w w' := by
  have q := cver_impl ((w.alloc (.cells #[.int .i64 a1, .int .i64 b1, .int .i64 c1, .string p1] 25)).alloc (.cells #[.int .i64 a2, .int .i64 b2, .int .i64 c2, .string p2] 25)) a1 b1 c1 p1 a2 b2 c2 p2 h1 h2
  have HB : Hid (Below w.heap.size w ((w.alloc (.cells #[.int .i64 a1, .int .i64 b1, .int .i64 c1, .string p1] 25)).alloc (.cells #[.int .i64 a2, .int .i64 b2, .int .i64 c2, .string p2] 25))) := ((Below.refl _ _).alloc (Nat.le_refl _) _).alloc (by simp) _
  obtain ⟨z, hz⟩ : ∃ z, cmpV a1 b1 c1 p1 a2 b2 c2 p2 = z := ⟨_, rfl⟩
  rw [hz] at q ⊢
  clear hz
  unfold ver at q ⊢
  go_enter Try.func7, Try.ntmps7
  go_wp2_with (go_at_call 18; refine q.mono ?_; rintro e w5 ⟨rfl, b5⟩)
  go_ret
  exact ⟨rfl, HB.out.trans (b5.mono HB.out.size)⟩

end Go.Proofs.Ytbpgdagmffbagab.Ver
