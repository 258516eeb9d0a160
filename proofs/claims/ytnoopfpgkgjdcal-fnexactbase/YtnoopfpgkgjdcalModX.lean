/- Chapter 4: the exact laws, over contracts of the landed functions. -/
import Derived.Test.YtnoopfpgkgjdcalMod6
import Derived.Test.YtnoopfpgkgjdcalVerL
namespace Go.Proofs.Ytnoopfpgkgjdcal.Mod
open Go.RowKit Go.Proofs.Ytnoopfpgkgjdcal.Mem Go.Proofs.Ytnoopfpgkgjdcal.Laws Go.Proofs.Ytnoopfpgkgjdcal.Bytes Go.Proofs.Ytnoopfpgkgjdcal.Sha Go.Proofs.Ytnoopfpgkgjdcal.Ver
set_option linter.unusedVariables false
set_option linter.unusedSimpArgs false


set_option maxRecDepth 1000000 in
set_option maxHeartbeats 1000000 in
theorem exact_path (w : World) (s : ByteArray) (hm : s.size ≤ maxLen)
    (iP : ∀ W, Below w.heap.size w W → s.size ≤ 1048576 → Calls Try.prog 8 #[.string s] W fun e w' => e = .returned (.bool (path4 (sb s))) ∧ Below W.heap.size W w') :
    Calls Try.prog 3 #[.string s] w fun e w' => e = .returned (.bool true) ∧ Below w.heap.size w w' := by
  unfold maxLen at hm
  by_cases hbig : 1048576 < s.size
  · have hb : (1048576 : Int) < (s.size : Int) := by omega
    clear hbig iP
    go_enter Try.func3, Try.ntmps3
    go_wp2
    go_ret
    exact ⟨rfl, Below.refl _ _⟩
  · have hb : ¬ (1048576 : Int) < (s.size : Int) := by omega
    have q1 := path_spec w s (by omega)
    have q2 : ∀ W, Below w.heap.size w W → _ := fun W h => iP W h (by omega)
    obtain ⟨x, hx⟩ : ∃ x, path4 (sb s) = x := ⟨_, rfl⟩
    rw [hx] at q1
    simp only [hx] at q2
    clear hx hbig iP
    go_enter Try.func3, Try.ntmps3
    go_wp2_with fail
    refine q1.mono ?_
    rintro e W1 ⟨rfl, b1⟩
    go_wp2_with fail
    refine (q2 _ b1).mono ?_
    rintro e W2 ⟨rfl, b2⟩
    have B2 : Below w.heap.size w W2 := b1.trans (b2.mono b1.size)
    clear q1 q2
    cases x
    · go_wp2_with fail
      go_ret
      exact ⟨rfl, B2⟩
    · go_wp2_with fail
      go_ret
      exact ⟨rfl, B2⟩

set_option maxRecDepth 1000000 in
set_option maxHeartbeats 1000000 in
theorem exact_major (w : World) (s : ByteArray) (hm : s.size ≤ maxLen)
    (iP : ∀ W, Below w.heap.size w W → s.size ≤ 1048576 → Calls Try.prog 10 #[.string s] W fun e w' => e = .returned (.int .i64 (major4 s)) ∧ Below W.heap.size W w') :
    Calls Try.prog 4 #[.string s] w fun e w' => e = .returned (.bool true) ∧ Below w.heap.size w w' := by
  unfold maxLen at hm
  by_cases hbig : 1048576 < s.size
  · have hb : (1048576 : Int) < (s.size : Int) := by omega
    clear hbig iP
    go_enter Try.func4, Try.ntmps4
    go_wp2
    go_ret
    exact ⟨rfl, Below.refl _ _⟩
  · have hb : ¬ (1048576 : Int) < (s.size : Int) := by omega
    have q1 := major_spec w s (by omega)
    have q2 : ∀ W, Below w.heap.size w W → _ := fun W h => iP W h (by omega)
    obtain ⟨x, hx⟩ : ∃ x, major4 s = x := ⟨_, rfl⟩
    rw [hx] at q1
    simp only [hx] at q2
    clear hx hbig iP
    go_enter Try.func4, Try.ntmps4
    go_wp2_with fail
    refine q1.mono ?_
    rintro e W1 ⟨rfl, b1⟩
    go_wp2_with fail
    refine (q2 _ b1).mono ?_
    rintro e W2 ⟨rfl, b2⟩
    have B2 : Below w.heap.size w W2 := b1.trans (b2.mono b1.size)
    clear q1 q2
    have n1 : (x != x) = false := by simp
    go_wp2_with fail
    go_ret
    exact ⟨rfl, B2⟩

set_option maxRecDepth 1000000 in
set_option maxHeartbeats 1000000 in
theorem exact_base (w : World) (s : ByteArray) (hm : s.size ≤ maxLen)
    (iP : ∀ W, Below w.heap.size w W → s.size ≤ 1048576 → Calls Try.prog 16 #[.string s] W fun e w' => e = .returned (.string (base4 s)) ∧ Below W.heap.size W w') :
    Calls Try.prog 6 #[.string s] w fun e w' => e = .returned (.bool true) ∧ Below w.heap.size w w' := by
  unfold maxLen at hm
  by_cases hbig : 1048576 < s.size
  · have hb : (1048576 : Int) < (s.size : Int) := by omega
    clear hbig iP
    go_enter Try.func6, Try.ntmps6
    go_wp2
    go_ret
    exact ⟨rfl, Below.refl _ _⟩
  · have hb : ¬ (1048576 : Int) < (s.size : Int) := by omega
    have q1 := base_spec w s (by omega) maj4_len
    have q2 : ∀ W, Below w.heap.size w W → _ := fun W h => iP W h (by omega)
    obtain ⟨x, hx⟩ : ∃ x, base4 s = x := ⟨_, rfl⟩
    rw [hx] at q1
    simp only [hx] at q2
    clear hx hbig iP
    go_enter Try.func6, Try.ntmps6
    go_wp2_with fail
    refine q1.mono ?_
    rintro e W1 ⟨rfl, b1⟩
    go_wp2_with fail
    refine (q2 _ b1).mono ?_
    rintro e W2 ⟨rfl, b2⟩
    have B2 : Below w.heap.size w W2 := b1.trans (b2.mono b1.size)
    clear q1 q2
    have n1 : (x.toList == x.toList) = true := by simp
    go_wp2_with fail
    go_ret
    exact ⟨rfl, B2⟩

set_option maxRecDepth 1000000 in
set_option maxHeartbeats 2000000 in
theorem exact_fits (w : World) (s : ByteArray) (a0 b0 c0 : Int) (p0 : ByteArray) (hm : s.size ≤ maxLen) (wp0 : p0.size ≤ maxLen)
    (iF : ∀ W, Below w.heap.size w W → s.size ≤ 1048576 → p0.size ≤ 1048576 → Calls Try.prog 14 #[.string s, .agg #[.int .i64 a0, .int .i64 b0, .int .i64 c0, .string p0]] W fun e w' => e = .returned (.bool (fits4 s a0 b0 c0 p0)) ∧ Below W.heap.size W w') :
    Calls Try.prog 5 #[.string s, .agg #[.int .i64 a0, .int .i64 b0, .int .i64 c0, .string p0]] w fun e w' => e = .returned (.bool true) ∧ Below w.heap.size w w' := by
  unfold maxLen at hm wp0
  have HB : Hid (Below w.heap.size w (w.alloc (.cells #[.int .i64 a0, .int .i64 b0, .int .i64 c0, .string p0] 25))) := (Below.refl _ _).alloc (Nat.le_refl _) _
  have HR : Hid ((w.alloc (.cells #[.int .i64 a0, .int .i64 b0, .int .i64 c0, .string p0] 25)).heap[w.heap.size]? = some (.cells (Ver.vc a0 b0 c0 p0) 25 (0, 0))) := heap_alloc_new w _
  by_cases hbs : 1048576 < s.size
  · have hb : (1048576 : Int) < (s.size : Int) := by omega
    clear hbs iF HR
    go_enter Try.func5, Try.ntmps5
    go_wp2
    go_ret
    exact ⟨rfl, HB.out⟩
  have hb : ¬ (1048576 : Int) < (s.size : Int) := by omega
  have q0 := Ver.sz_any (w.alloc (.cells #[.int .i64 a0, .int .i64 b0, .int .i64 c0, .string p0] 25)) a0 b0 c0 p0 1048576 (by omega) (by omega) (by omega)
  unfold Ver.ver at q0
  by_cases hbig : (1048576 : Int) - p0.size < 0
  · rw [if_pos hbig] at q0
    clear hbig iF
    go_enter Try.func5, Try.ntmps5
    go_wp2_with (go_at_call 11; refine q0.mono ?_; rintro e W1 ⟨rfl, b1⟩)
    go_ret
    exact ⟨rfl, HB.out.trans (b1.mono HB.out.size)⟩
  · rw [if_neg hbig] at q0
    have hp0 : p0.size ≤ 1048576 := by omega
    have hq0 : ¬ (1048576 : Int) - p0.size < 0 := by omega
    have q3 : ∀ W, _ := fun W => fits_spec W s a0 b0 c0 p0 (by omega) (by omega)
    have q5 : ∀ W, Below w.heap.size w W → _ := fun W h => iF W h (by omega) hp0
    unfold Ver.ver at q3
    obtain ⟨x, hx⟩ : ∃ x, fits4 s a0 b0 c0 p0 = x := ⟨_, rfl⟩
    simp only [hx] at q3 q5
    clear hbig iF hx
    go_enter Try.func5, Try.ntmps5
    go_wp2_with fail
    refine q0.mono ?_
    rintro e W1 ⟨rfl, b1⟩
    have R1 := Ver.rowStay HR.out b1
    have B1 : Below w.heap.size w W1 := HB.out.trans (b1.mono HB.out.size)
    clear q0 b1 HR HB
    go_wp2_with (refine wpList_load_row rfl 25 _ rfl w.heap.size rfl 25 (Ver.vc a0 b0 c0 p0) (0, 0) _ R1 Try.underlying25 rfl (Ver.sizeL a0 b0 c0 p0) ?_)
    refine (Ver.to_ver W1 a0 b0 c0 p0).mono ?_
    rintro e W2 ⟨rfl, b2⟩
    have R2 := Ver.rowStay R1 b2
    have B2 : Below w.heap.size w W2 := B1.trans (b2.mono B1.size)
    clear R1 B1 b2
    go_wp2_with (refine wpList_load_row rfl 25 _ rfl w.heap.size rfl 25 (Ver.vc a0 b0 c0 p0) (0, 0) _ R2 Try.underlying25 rfl (Ver.sizeL a0 b0 c0 p0) ?_)
    refine (q3 W2).mono ?_
    rintro e W3 ⟨rfl, b3⟩
    have R3 := Ver.rowStay R2 b3
    have B3 : Below w.heap.size w W3 := B2.trans (b3.mono B2.size)
    clear R2 B2 b3
    go_wp2_with (refine wpList_load_row rfl 25 _ rfl w.heap.size rfl 25 (Ver.vc a0 b0 c0 p0) (0, 0) _ R3 Try.underlying25 rfl (Ver.sizeL a0 b0 c0 p0) ?_)
    refine (Ver.to_ver W3 a0 b0 c0 p0).mono ?_
    rintro e W4 ⟨rfl, b4⟩
    have R4 := Ver.rowStay R3 b4
    have B4 : Below w.heap.size w W4 := B3.trans (b4.mono B3.size)
    clear R3 B3 b4
    go_wp2_with (refine wpList_load_row rfl 25 _ rfl w.heap.size rfl 25 (Ver.vc a0 b0 c0 p0) (0, 0) _ R4 Try.underlying25 rfl (Ver.sizeL a0 b0 c0 p0) ?_)
    refine (q5 W4 B4).mono ?_
    rintro e W5 ⟨rfl, b5⟩
    have B5 : Below w.heap.size w W5 := B4.trans (b5.mono B4.size)
    clear R4 B4 b5 q3 q5
    cases x
    · go_wp2_with fail
      go_ret
      exact ⟨rfl, B5⟩
    · go_wp2_with fail
      go_ret
      exact ⟨rfl, B5⟩

end Go.Proofs.Ytnoopfpgkgjdcal.Mod
