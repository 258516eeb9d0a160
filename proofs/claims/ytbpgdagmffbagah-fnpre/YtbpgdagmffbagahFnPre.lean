/- For every input the law 'FnPre' returns true and leaves its arguments as they were: proved without a condition, over the turned code of the commit beside it. -/
import Derived.Test.YtbpgdagmffbagahRows
import Derived.WalkKit
import Derived.Test.YtbpgdagmffbagahBytes
import Derived.Test.YtbpgdagmffbagahOrdL
import Derived.Test.YtbpgdagmffbagahRowSl
import Derived.ProofKit
import Derived.OpenShut
import Derived.ShutString
import Derived.ChangeOld
import Derived.Below
import Derived.SliceStrings
namespace Go.Proofs.Ytbpgdagmffbagah.fnPre
open Go.ChangeShapes Go.WideShapes Go.ChangeAt Go.RowKit
open Go.ChangeMaps (open_string shut_string)
set_option linter.unusedVariables false

theorem own : ownKnob Try.prog.godebug = none := by kernel_rfl
theorem laidOut : laidOutB Try.prog = true := by kernel_rfl

set_option maxRecDepth 1000000 in
set_option maxHeartbeats 4000000 in
theorem walk (w : World) (v0 : Value) (xs0 : List Int) (h0 : Mem.Sl w v0 (Mem.bs xs0)) (y0 : Mem.Byt xs0) (m0 : xs0.length ≤ maxLen) :
    Calls Try.prog 3 #[v0] w fun e w' => e = .returned (.bool true) ∧ Below w.heap.size w w' := by
  unfold maxLen at m0
  by_cases hbig : 1048576 < xs0.length
  · obtain ⟨ao, cap, rfl, _, _, _⟩ := h0
    rw [Mem.bs_len]
    go_enter Try.func3, Try.ntmps3
    go_wp2_with (go_at_call 4; refine (Draw.big_yes _ _ _ _ hbig).mono ?_; rintro e w1 ⟨rfl, rfl⟩)
    go_ret
    exact ⟨rfl, Below.refl _ _⟩
  have q1 := Ver.three_agg w v0 xs0 h0 y0 (by omega)
  obtain ⟨ao, cap, rfl, _, _, _⟩ := h0
  rw [Mem.bs_len] at q1 ⊢
  go_enter Try.func3, Try.ntmps3
  go_wp2_with fail
  refine (Draw.big_no _ _ _ _ hbig).mono ?_
  rintro e w0 ⟨rfl, rfl⟩
  go_wp2_with fail
  refine q1.mono ?_
  rintro e W1 ⟨a1, b1, c1, p1, a2, b2, c2, p2, a3, b3, c3, p3, rfl, D1, D2, D3, B0⟩
  have HD1 : Hid (Ver.Dv a1 b1 c1 p1) := D1
  have hpz := D1.size
  obtain ⟨⟨ha0, ha1⟩, ⟨hb0, hb1⟩, ⟨hc0, hc1⟩, _⟩ := D1
  have B4 := Ver.below3 W1 (.cells #[.int .i64 a1, .int .i64 b1, .int .i64 c1, .string p1] 25) (.cells #[.int .i64 a2, .int .i64 b2, .int .i64 c2, .string p2] 25) (.cells #[.int .i64 a3, .int .i64 b3, .int .i64 c3, .string p3] 25)
  have B3 : Below w.heap.size w (((W1.alloc (.cells #[.int .i64 a1, .int .i64 b1, .int .i64 c1, .string p1] 25)).alloc (.cells #[.int .i64 a2, .int .i64 b2, .int .i64 c2, .string p2] 25)).alloc (.cells #[.int .i64 a3, .int .i64 b3, .int .i64 c3, .string p3] 25)) := B0.trans (B4.mono B0.size)
  have B : Below w.heap.size w ((((W1.alloc (.cells #[.int .i64 a1, .int .i64 b1, .int .i64 c1, .string p1] 25)).alloc (.cells #[.int .i64 a2, .int .i64 b2, .int .i64 c2, .string p2] 25)).alloc (.cells #[.int .i64 a3, .int .i64 b3, .int .i64 c3, .string p3] 25)).alloc (.cells #[.int .i64 a1, .int .i64 b1, .int .i64 c1, .string ⟨#[]⟩] 25)) := B3.alloc B3.size _
  have R0 : Ver.Vr ((((W1.alloc (.cells #[.int .i64 a1, .int .i64 b1, .int .i64 c1, .string p1] 25)).alloc (.cells #[.int .i64 a2, .int .i64 b2, .int .i64 c2, .string p2] 25)).alloc (.cells #[.int .i64 a3, .int .i64 b3, .int .i64 c3, .string p3] 25)).alloc (.cells #[.int .i64 a1, .int .i64 b1, .int .i64 c1, .string ⟨#[]⟩] 25)) W1.heap.size a1 b1 c1 p1 := Ver.Vr.same (Ver.first3 W1 _ _ _) ((Below.refl _ _).alloc (Nat.le_refl _) _)
  have R1 : Ver.Vr ((((W1.alloc (.cells #[.int .i64 a1, .int .i64 b1, .int .i64 c1, .string p1] 25)).alloc (.cells #[.int .i64 a2, .int .i64 b2, .int .i64 c2, .string p2] 25)).alloc (.cells #[.int .i64 a3, .int .i64 b3, .int .i64 c3, .string p3] 25)).alloc (.cells #[.int .i64 a1, .int .i64 b1, .int .i64 c1, .string ⟨#[]⟩] 25)) (W1.heap.size + 1 + 1 + 1) a1 b1 c1 ⟨#[]⟩ := by
    have h := heap_alloc_new (((W1.alloc (.cells #[.int .i64 a1, .int .i64 b1, .int .i64 c1, .string p1] 25)).alloc (.cells #[.int .i64 a2, .int .i64 b2, .int .i64 c2, .string p2] 25)).alloc (.cells #[.int .i64 a3, .int .i64 b3, .int .i64 c3, .string p3] 25)) (.cells #[.int .i64 a1, .int .i64 b1, .int .i64 c1, .string ⟨#[]⟩] 25)
    rw [Ver.size3] at h
    exact h
  clear q1 B0 D2 D3 B3 B4
  obtain ⟨k0a, k0b, k0c, k0d⟩ := Ver.Vr.cells R0
  obtain ⟨k1a, k1b, k1c, k1d⟩ := Ver.Vr.cells R1
  have HR0 : Hid (Ver.Vr ((((W1.alloc (.cells #[.int .i64 a1, .int .i64 b1, .int .i64 c1, .string p1] 25)).alloc (.cells #[.int .i64 a2, .int .i64 b2, .int .i64 c2, .string p2] 25)).alloc (.cells #[.int .i64 a3, .int .i64 b3, .int .i64 c3, .string p3] 25)).alloc (.cells #[.int .i64 a1, .int .i64 b1, .int .i64 c1, .string ⟨#[]⟩] 25)) (W1.heap.size) a1 b1 c1 p1) := R0
  have HR1 : Hid (Ver.Vr ((((W1.alloc (.cells #[.int .i64 a1, .int .i64 b1, .int .i64 c1, .string p1] 25)).alloc (.cells #[.int .i64 a2, .int .i64 b2, .int .i64 c2, .string p2] 25)).alloc (.cells #[.int .i64 a3, .int .i64 b3, .int .i64 c3, .string p3] 25)).alloc (.cells #[.int .i64 a1, .int .i64 b1, .int .i64 c1, .string ⟨#[]⟩] 25)) (W1.heap.size + 1 + 1 + 1) a1 b1 c1 ⟨#[]⟩) := R1
  clear R0 R1
  have P := Ver.pre_facts HD1.out
  obtain ⟨P2, P1, P0, L0, LA, LB, LC, OK⟩ := P
  have u2 : ∀ W, _ := fun W => Ver.bump_agg W a1 b1 c1 ⟨#[]⟩ 2 (Nat.zero_le _)
  have u1 : ∀ W, _ := fun W => Ver.bump_agg W a1 b1 c1 ⟨#[]⟩ 1 (Nat.zero_le _)
  have u0 : ∀ W, _ := fun W => Ver.bump_agg W a1 b1 c1 ⟨#[]⟩ 0 (Nat.zero_le _)
  rw [P2] at u2
  rw [P1] at u1
  rw [P0] at u0
  simp only at u2 u1 u0
  have qv : ∀ W, _ := fun W => Ver.less_agg W a1 b1 c1 p1 a1 b1 c1 ⟨#[]⟩ hpz (Nat.zero_le _)
  have qa : ∀ W, _ := fun W => Ver.less_agg W a1 b1 c1 ⟨#[]⟩ a1 b1 (c1 + 1) ⟨#[]⟩ (Nat.zero_le _) (Nat.zero_le _)
  have qb : ∀ W, _ := fun W => Ver.less_agg W a1 b1 (c1 + 1) ⟨#[]⟩ a1 (b1 + 1) 0 ⟨#[]⟩ (Nat.zero_le _) (Nat.zero_le _)
  have qc : ∀ W, _ := fun W => Ver.less_agg W a1 (b1 + 1) 0 ⟨#[]⟩ (a1 + 1) 0 0 ⟨#[]⟩ (Nat.zero_le _) (Nat.zero_le _)
  have qk : ∀ W, _ := fun W => Ver.ok_agg W a1 b1 c1 p1 hpz
  rw [LA] at qa
  rw [LB] at qb
  rw [LC] at qc
  rw [OK] at qk
  have HL0 : Hid _ := L0
  clear P2 P1 P0 LA LB LC OK L0
  go_wp2_with fail
  refine (u2 _).mono ?_
  rintro e W2 ⟨rfl, bw⟩
  have R0 : Ver.Vr (W2.alloc (.cells #[.int .i64 a1, .int .i64 b1, .int .i64 (c1 + 1), .string ⟨#[]⟩] 25)) (W1.heap.size) a1 b1 c1 p1 := Ver.Vr.same (Ver.Vr.same HR0.out bw) ((Below.refl _ _).alloc (Nat.le_refl _) _)
  have R1 : Ver.Vr (W2.alloc (.cells #[.int .i64 a1, .int .i64 b1, .int .i64 (c1 + 1), .string ⟨#[]⟩] 25)) (W1.heap.size + 1 + 1 + 1) a1 b1 c1 ⟨#[]⟩ := Ver.Vr.same (Ver.Vr.same HR1.out bw) ((Below.refl _ _).alloc (Nat.le_refl _) _)
  have R2 : Ver.Vr (W2.alloc (.cells #[.int .i64 a1, .int .i64 b1, .int .i64 (c1 + 1), .string ⟨#[]⟩] 25)) W2.heap.size a1 b1 (c1 + 1) ⟨#[]⟩ := heap_alloc_new W2 _
  have B' : Below w.heap.size w W2 := B.trans (bw.mono B.size)
  have B'' : Below w.heap.size w (W2.alloc (.cells #[.int .i64 a1, .int .i64 b1, .int .i64 (c1 + 1), .string ⟨#[]⟩] 25)) := B'.alloc B'.size _
  clear B B' bw HR0 HR1 k0a k0b k0c k0d k1a k1b k1c k1d
  have B := B''
  clear B''
  obtain ⟨k0a, k0b, k0c, k0d⟩ := Ver.Vr.cells R0
  obtain ⟨k1a, k1b, k1c, k1d⟩ := Ver.Vr.cells R1
  obtain ⟨k2a, k2b, k2c, k2d⟩ := Ver.Vr.cells R2
  have HR0 : Hid (Ver.Vr (W2.alloc (.cells #[.int .i64 a1, .int .i64 b1, .int .i64 (c1 + 1), .string ⟨#[]⟩] 25)) (W1.heap.size) a1 b1 c1 p1) := R0
  have HR1 : Hid (Ver.Vr (W2.alloc (.cells #[.int .i64 a1, .int .i64 b1, .int .i64 (c1 + 1), .string ⟨#[]⟩] 25)) (W1.heap.size + 1 + 1 + 1) a1 b1 c1 ⟨#[]⟩) := R1
  have HR2 : Hid (Ver.Vr (W2.alloc (.cells #[.int .i64 a1, .int .i64 b1, .int .i64 (c1 + 1), .string ⟨#[]⟩] 25)) (W2.heap.size) a1 b1 (c1 + 1) ⟨#[]⟩) := R2
  clear R0 R1 R2
  go_wp2_with fail
  refine (u1 _).mono ?_
  rintro e W3 ⟨rfl, bw⟩
  have R0 : Ver.Vr (W3.alloc (.cells #[.int .i64 a1, .int .i64 (b1 + 1), .int .i64 0, .string ⟨#[]⟩] 25)) (W1.heap.size) a1 b1 c1 p1 := Ver.Vr.same (Ver.Vr.same HR0.out bw) ((Below.refl _ _).alloc (Nat.le_refl _) _)
  have R1 : Ver.Vr (W3.alloc (.cells #[.int .i64 a1, .int .i64 (b1 + 1), .int .i64 0, .string ⟨#[]⟩] 25)) (W1.heap.size + 1 + 1 + 1) a1 b1 c1 ⟨#[]⟩ := Ver.Vr.same (Ver.Vr.same HR1.out bw) ((Below.refl _ _).alloc (Nat.le_refl _) _)
  have R2 : Ver.Vr (W3.alloc (.cells #[.int .i64 a1, .int .i64 (b1 + 1), .int .i64 0, .string ⟨#[]⟩] 25)) (W2.heap.size) a1 b1 (c1 + 1) ⟨#[]⟩ := Ver.Vr.same (Ver.Vr.same HR2.out bw) ((Below.refl _ _).alloc (Nat.le_refl _) _)
  have R3 : Ver.Vr (W3.alloc (.cells #[.int .i64 a1, .int .i64 (b1 + 1), .int .i64 0, .string ⟨#[]⟩] 25)) W3.heap.size a1 (b1 + 1) 0 ⟨#[]⟩ := heap_alloc_new W3 _
  have B' : Below w.heap.size w W3 := B.trans (bw.mono B.size)
  have B'' : Below w.heap.size w (W3.alloc (.cells #[.int .i64 a1, .int .i64 (b1 + 1), .int .i64 0, .string ⟨#[]⟩] 25)) := B'.alloc B'.size _
  clear B B' bw HR0 HR1 HR2 k0a k0b k0c k0d k1a k1b k1c k1d k2a k2b k2c k2d
  have B := B''
  clear B''
  obtain ⟨k0a, k0b, k0c, k0d⟩ := Ver.Vr.cells R0
  obtain ⟨k1a, k1b, k1c, k1d⟩ := Ver.Vr.cells R1
  obtain ⟨k2a, k2b, k2c, k2d⟩ := Ver.Vr.cells R2
  obtain ⟨k3a, k3b, k3c, k3d⟩ := Ver.Vr.cells R3
  have HR0 : Hid (Ver.Vr (W3.alloc (.cells #[.int .i64 a1, .int .i64 (b1 + 1), .int .i64 0, .string ⟨#[]⟩] 25)) (W1.heap.size) a1 b1 c1 p1) := R0
  have HR1 : Hid (Ver.Vr (W3.alloc (.cells #[.int .i64 a1, .int .i64 (b1 + 1), .int .i64 0, .string ⟨#[]⟩] 25)) (W1.heap.size + 1 + 1 + 1) a1 b1 c1 ⟨#[]⟩) := R1
  have HR2 : Hid (Ver.Vr (W3.alloc (.cells #[.int .i64 a1, .int .i64 (b1 + 1), .int .i64 0, .string ⟨#[]⟩] 25)) (W2.heap.size) a1 b1 (c1 + 1) ⟨#[]⟩) := R2
  have HR3 : Hid (Ver.Vr (W3.alloc (.cells #[.int .i64 a1, .int .i64 (b1 + 1), .int .i64 0, .string ⟨#[]⟩] 25)) (W3.heap.size) a1 (b1 + 1) 0 ⟨#[]⟩) := R3
  clear R0 R1 R2 R3
  go_wp2_with fail
  refine (u0 _).mono ?_
  rintro e W4 ⟨rfl, bw⟩
  have R0 : Ver.Vr (W4.alloc (.cells #[.int .i64 (a1 + 1), .int .i64 0, .int .i64 0, .string ⟨#[]⟩] 25)) (W1.heap.size) a1 b1 c1 p1 := Ver.Vr.same (Ver.Vr.same HR0.out bw) ((Below.refl _ _).alloc (Nat.le_refl _) _)
  have R1 : Ver.Vr (W4.alloc (.cells #[.int .i64 (a1 + 1), .int .i64 0, .int .i64 0, .string ⟨#[]⟩] 25)) (W1.heap.size + 1 + 1 + 1) a1 b1 c1 ⟨#[]⟩ := Ver.Vr.same (Ver.Vr.same HR1.out bw) ((Below.refl _ _).alloc (Nat.le_refl _) _)
  have R2 : Ver.Vr (W4.alloc (.cells #[.int .i64 (a1 + 1), .int .i64 0, .int .i64 0, .string ⟨#[]⟩] 25)) (W2.heap.size) a1 b1 (c1 + 1) ⟨#[]⟩ := Ver.Vr.same (Ver.Vr.same HR2.out bw) ((Below.refl _ _).alloc (Nat.le_refl _) _)
  have R3 : Ver.Vr (W4.alloc (.cells #[.int .i64 (a1 + 1), .int .i64 0, .int .i64 0, .string ⟨#[]⟩] 25)) (W3.heap.size) a1 (b1 + 1) 0 ⟨#[]⟩ := Ver.Vr.same (Ver.Vr.same HR3.out bw) ((Below.refl _ _).alloc (Nat.le_refl _) _)
  have R4 : Ver.Vr (W4.alloc (.cells #[.int .i64 (a1 + 1), .int .i64 0, .int .i64 0, .string ⟨#[]⟩] 25)) W4.heap.size (a1 + 1) 0 0 ⟨#[]⟩ := heap_alloc_new W4 _
  have B' : Below w.heap.size w W4 := B.trans (bw.mono B.size)
  have B'' : Below w.heap.size w (W4.alloc (.cells #[.int .i64 (a1 + 1), .int .i64 0, .int .i64 0, .string ⟨#[]⟩] 25)) := B'.alloc B'.size _
  clear B B' bw HR0 HR1 HR2 HR3 k0a k0b k0c k0d k1a k1b k1c k1d k2a k2b k2c k2d k3a k3b k3c k3d
  have B := B''
  clear B''
  obtain ⟨k0a, k0b, k0c, k0d⟩ := Ver.Vr.cells R0
  obtain ⟨k1a, k1b, k1c, k1d⟩ := Ver.Vr.cells R1
  obtain ⟨k2a, k2b, k2c, k2d⟩ := Ver.Vr.cells R2
  obtain ⟨k3a, k3b, k3c, k3d⟩ := Ver.Vr.cells R3
  obtain ⟨k4a, k4b, k4c, k4d⟩ := Ver.Vr.cells R4
  have HR0 : Hid (Ver.Vr (W4.alloc (.cells #[.int .i64 (a1 + 1), .int .i64 0, .int .i64 0, .string ⟨#[]⟩] 25)) (W1.heap.size) a1 b1 c1 p1) := R0
  have HR1 : Hid (Ver.Vr (W4.alloc (.cells #[.int .i64 (a1 + 1), .int .i64 0, .int .i64 0, .string ⟨#[]⟩] 25)) (W1.heap.size + 1 + 1 + 1) a1 b1 c1 ⟨#[]⟩) := R1
  have HR2 : Hid (Ver.Vr (W4.alloc (.cells #[.int .i64 (a1 + 1), .int .i64 0, .int .i64 0, .string ⟨#[]⟩] 25)) (W2.heap.size) a1 b1 (c1 + 1) ⟨#[]⟩) := R2
  have HR3 : Hid (Ver.Vr (W4.alloc (.cells #[.int .i64 (a1 + 1), .int .i64 0, .int .i64 0, .string ⟨#[]⟩] 25)) (W3.heap.size) a1 (b1 + 1) 0 ⟨#[]⟩) := R3
  have HR4 : Hid (Ver.Vr (W4.alloc (.cells #[.int .i64 (a1 + 1), .int .i64 0, .int .i64 0, .string ⟨#[]⟩] 25)) (W4.heap.size) (a1 + 1) 0 0 ⟨#[]⟩) := R4
  clear R0 R1 R2 R3 R4
  by_cases hpe : p1.size = 0
  · have de : p1.toList.isEmpty = true := by rw [Ver.toList_empty]; simp [hpe]
    clear hpe
    go_wp2_with fail
    refine (qa _).mono ?_
    rintro e W6 ⟨rfl, bw⟩
    have R0 := Ver.Vr.same HR0.out bw
    have R1 := Ver.Vr.same HR1.out bw
    have R2 := Ver.Vr.same HR2.out bw
    have R3 := Ver.Vr.same HR3.out bw
    have R4 := Ver.Vr.same HR4.out bw
    have B' : Below w.heap.size w W6 := B.trans (bw.mono B.size)
    clear B bw HR0 HR1 HR2 HR3 HR4 k0a k0b k0c k0d k1a k1b k1c k1d k2a k2b k2c k2d k3a k3b k3c k3d k4a k4b k4c k4d
    have B := B'
    clear B'
    obtain ⟨k0a, k0b, k0c, k0d⟩ := Ver.Vr.cells R0
    obtain ⟨k1a, k1b, k1c, k1d⟩ := Ver.Vr.cells R1
    obtain ⟨k2a, k2b, k2c, k2d⟩ := Ver.Vr.cells R2
    obtain ⟨k3a, k3b, k3c, k3d⟩ := Ver.Vr.cells R3
    obtain ⟨k4a, k4b, k4c, k4d⟩ := Ver.Vr.cells R4
    have HR0 : Hid (Ver.Vr W6 (W1.heap.size) a1 b1 c1 p1) := R0
    have HR1 : Hid (Ver.Vr W6 (W1.heap.size + 1 + 1 + 1) a1 b1 c1 ⟨#[]⟩) := R1
    have HR2 : Hid (Ver.Vr W6 (W2.heap.size) a1 b1 (c1 + 1) ⟨#[]⟩) := R2
    have HR3 : Hid (Ver.Vr W6 (W3.heap.size) a1 (b1 + 1) 0 ⟨#[]⟩) := R3
    have HR4 : Hid (Ver.Vr W6 (W4.heap.size) (a1 + 1) 0 0 ⟨#[]⟩) := R4
    clear R0 R1 R2 R3 R4
    go_wp2_with fail
    refine (qb _).mono ?_
    rintro e W7 ⟨rfl, bw⟩
    have R0 := Ver.Vr.same HR0.out bw
    have R1 := Ver.Vr.same HR1.out bw
    have R2 := Ver.Vr.same HR2.out bw
    have R3 := Ver.Vr.same HR3.out bw
    have R4 := Ver.Vr.same HR4.out bw
    have B' : Below w.heap.size w W7 := B.trans (bw.mono B.size)
    clear B bw HR0 HR1 HR2 HR3 HR4 k0a k0b k0c k0d k1a k1b k1c k1d k2a k2b k2c k2d k3a k3b k3c k3d k4a k4b k4c k4d
    have B := B'
    clear B'
    obtain ⟨k0a, k0b, k0c, k0d⟩ := Ver.Vr.cells R0
    obtain ⟨k1a, k1b, k1c, k1d⟩ := Ver.Vr.cells R1
    obtain ⟨k2a, k2b, k2c, k2d⟩ := Ver.Vr.cells R2
    obtain ⟨k3a, k3b, k3c, k3d⟩ := Ver.Vr.cells R3
    obtain ⟨k4a, k4b, k4c, k4d⟩ := Ver.Vr.cells R4
    have HR0 : Hid (Ver.Vr W7 (W1.heap.size) a1 b1 c1 p1) := R0
    have HR1 : Hid (Ver.Vr W7 (W1.heap.size + 1 + 1 + 1) a1 b1 c1 ⟨#[]⟩) := R1
    have HR2 : Hid (Ver.Vr W7 (W2.heap.size) a1 b1 (c1 + 1) ⟨#[]⟩) := R2
    have HR3 : Hid (Ver.Vr W7 (W3.heap.size) a1 (b1 + 1) 0 ⟨#[]⟩) := R3
    have HR4 : Hid (Ver.Vr W7 (W4.heap.size) (a1 + 1) 0 0 ⟨#[]⟩) := R4
    clear R0 R1 R2 R3 R4
    go_wp2_with fail
    refine (qc _).mono ?_
    rintro e W8 ⟨rfl, bw⟩
    have R0 := Ver.Vr.same HR0.out bw
    have R1 := Ver.Vr.same HR1.out bw
    have R2 := Ver.Vr.same HR2.out bw
    have R3 := Ver.Vr.same HR3.out bw
    have R4 := Ver.Vr.same HR4.out bw
    have B' : Below w.heap.size w W8 := B.trans (bw.mono B.size)
    clear B bw HR0 HR1 HR2 HR3 HR4 k0a k0b k0c k0d k1a k1b k1c k1d k2a k2b k2c k2d k3a k3b k3c k3d k4a k4b k4c k4d
    have B := B'
    clear B'
    obtain ⟨k0a, k0b, k0c, k0d⟩ := Ver.Vr.cells R0
    obtain ⟨k1a, k1b, k1c, k1d⟩ := Ver.Vr.cells R1
    obtain ⟨k2a, k2b, k2c, k2d⟩ := Ver.Vr.cells R2
    obtain ⟨k3a, k3b, k3c, k3d⟩ := Ver.Vr.cells R3
    obtain ⟨k4a, k4b, k4c, k4d⟩ := Ver.Vr.cells R4
    have HR0 : Hid (Ver.Vr W8 (W1.heap.size) a1 b1 c1 p1) := R0
    have HR1 : Hid (Ver.Vr W8 (W1.heap.size + 1 + 1 + 1) a1 b1 c1 ⟨#[]⟩) := R1
    have HR2 : Hid (Ver.Vr W8 (W2.heap.size) a1 b1 (c1 + 1) ⟨#[]⟩) := R2
    have HR3 : Hid (Ver.Vr W8 (W3.heap.size) a1 (b1 + 1) 0 ⟨#[]⟩) := R3
    have HR4 : Hid (Ver.Vr W8 (W4.heap.size) (a1 + 1) 0 0 ⟨#[]⟩) := R4
    clear R0 R1 R2 R3 R4
    go_wp2_with fail
    refine (qk _).mono ?_
    rintro e W9 ⟨rfl, bw⟩
    have R0 := Ver.Vr.same HR0.out bw
    have R1 := Ver.Vr.same HR1.out bw
    have R2 := Ver.Vr.same HR2.out bw
    have R3 := Ver.Vr.same HR3.out bw
    have R4 := Ver.Vr.same HR4.out bw
    have B' : Below w.heap.size w W9 := B.trans (bw.mono B.size)
    clear B bw HR0 HR1 HR2 HR3 HR4 k0a k0b k0c k0d k1a k1b k1c k1d k2a k2b k2c k2d k3a k3b k3c k3d k4a k4b k4c k4d
    have B := B'
    clear B'
    obtain ⟨k0a, k0b, k0c, k0d⟩ := Ver.Vr.cells R0
    obtain ⟨k1a, k1b, k1c, k1d⟩ := Ver.Vr.cells R1
    obtain ⟨k2a, k2b, k2c, k2d⟩ := Ver.Vr.cells R2
    obtain ⟨k3a, k3b, k3c, k3d⟩ := Ver.Vr.cells R3
    obtain ⟨k4a, k4b, k4c, k4d⟩ := Ver.Vr.cells R4
    have HR0 : Hid (Ver.Vr W9 (W1.heap.size) a1 b1 c1 p1) := R0
    have HR1 : Hid (Ver.Vr W9 (W1.heap.size + 1 + 1 + 1) a1 b1 c1 ⟨#[]⟩) := R1
    have HR2 : Hid (Ver.Vr W9 (W2.heap.size) a1 b1 (c1 + 1) ⟨#[]⟩) := R2
    have HR3 : Hid (Ver.Vr W9 (W3.heap.size) a1 (b1 + 1) 0 ⟨#[]⟩) := R3
    have HR4 : Hid (Ver.Vr W9 (W4.heap.size) (a1 + 1) 0 0 ⟨#[]⟩) := R4
    clear R0 R1 R2 R3 R4
    go_wp2_with fail
    go_ret
    exact ⟨rfl, B⟩
  · have de : p1.toList.isEmpty = false := by rw [Ver.toList_empty]; simp [hpe]
    have hl := HL0.out hpe
    rw [hl] at qv
    clear hpe hl
    go_wp2_with fail
    refine (qv _).mono ?_
    rintro e W5 ⟨rfl, bw⟩
    have R0 := Ver.Vr.same HR0.out bw
    have R1 := Ver.Vr.same HR1.out bw
    have R2 := Ver.Vr.same HR2.out bw
    have R3 := Ver.Vr.same HR3.out bw
    have R4 := Ver.Vr.same HR4.out bw
    have B' : Below w.heap.size w W5 := B.trans (bw.mono B.size)
    clear B bw HR0 HR1 HR2 HR3 HR4 k0a k0b k0c k0d k1a k1b k1c k1d k2a k2b k2c k2d k3a k3b k3c k3d k4a k4b k4c k4d
    have B := B'
    clear B'
    obtain ⟨k0a, k0b, k0c, k0d⟩ := Ver.Vr.cells R0
    obtain ⟨k1a, k1b, k1c, k1d⟩ := Ver.Vr.cells R1
    obtain ⟨k2a, k2b, k2c, k2d⟩ := Ver.Vr.cells R2
    obtain ⟨k3a, k3b, k3c, k3d⟩ := Ver.Vr.cells R3
    obtain ⟨k4a, k4b, k4c, k4d⟩ := Ver.Vr.cells R4
    have HR0 : Hid (Ver.Vr W5 (W1.heap.size) a1 b1 c1 p1) := R0
    have HR1 : Hid (Ver.Vr W5 (W1.heap.size + 1 + 1 + 1) a1 b1 c1 ⟨#[]⟩) := R1
    have HR2 : Hid (Ver.Vr W5 (W2.heap.size) a1 b1 (c1 + 1) ⟨#[]⟩) := R2
    have HR3 : Hid (Ver.Vr W5 (W3.heap.size) a1 (b1 + 1) 0 ⟨#[]⟩) := R3
    have HR4 : Hid (Ver.Vr W5 (W4.heap.size) (a1 + 1) 0 0 ⟨#[]⟩) := R4
    clear R0 R1 R2 R3 R4
    go_wp2_with fail
    refine (qa _).mono ?_
    rintro e W6 ⟨rfl, bw⟩
    have R0 := Ver.Vr.same HR0.out bw
    have R1 := Ver.Vr.same HR1.out bw
    have R2 := Ver.Vr.same HR2.out bw
    have R3 := Ver.Vr.same HR3.out bw
    have R4 := Ver.Vr.same HR4.out bw
    have B' : Below w.heap.size w W6 := B.trans (bw.mono B.size)
    clear B bw HR0 HR1 HR2 HR3 HR4 k0a k0b k0c k0d k1a k1b k1c k1d k2a k2b k2c k2d k3a k3b k3c k3d k4a k4b k4c k4d
    have B := B'
    clear B'
    obtain ⟨k0a, k0b, k0c, k0d⟩ := Ver.Vr.cells R0
    obtain ⟨k1a, k1b, k1c, k1d⟩ := Ver.Vr.cells R1
    obtain ⟨k2a, k2b, k2c, k2d⟩ := Ver.Vr.cells R2
    obtain ⟨k3a, k3b, k3c, k3d⟩ := Ver.Vr.cells R3
    obtain ⟨k4a, k4b, k4c, k4d⟩ := Ver.Vr.cells R4
    have HR0 : Hid (Ver.Vr W6 (W1.heap.size) a1 b1 c1 p1) := R0
    have HR1 : Hid (Ver.Vr W6 (W1.heap.size + 1 + 1 + 1) a1 b1 c1 ⟨#[]⟩) := R1
    have HR2 : Hid (Ver.Vr W6 (W2.heap.size) a1 b1 (c1 + 1) ⟨#[]⟩) := R2
    have HR3 : Hid (Ver.Vr W6 (W3.heap.size) a1 (b1 + 1) 0 ⟨#[]⟩) := R3
    have HR4 : Hid (Ver.Vr W6 (W4.heap.size) (a1 + 1) 0 0 ⟨#[]⟩) := R4
    clear R0 R1 R2 R3 R4
    go_wp2_with fail
    refine (qb _).mono ?_
    rintro e W7 ⟨rfl, bw⟩
    have R0 := Ver.Vr.same HR0.out bw
    have R1 := Ver.Vr.same HR1.out bw
    have R2 := Ver.Vr.same HR2.out bw
    have R3 := Ver.Vr.same HR3.out bw
    have R4 := Ver.Vr.same HR4.out bw
    have B' : Below w.heap.size w W7 := B.trans (bw.mono B.size)
    clear B bw HR0 HR1 HR2 HR3 HR4 k0a k0b k0c k0d k1a k1b k1c k1d k2a k2b k2c k2d k3a k3b k3c k3d k4a k4b k4c k4d
    have B := B'
    clear B'
    obtain ⟨k0a, k0b, k0c, k0d⟩ := Ver.Vr.cells R0
    obtain ⟨k1a, k1b, k1c, k1d⟩ := Ver.Vr.cells R1
    obtain ⟨k2a, k2b, k2c, k2d⟩ := Ver.Vr.cells R2
    obtain ⟨k3a, k3b, k3c, k3d⟩ := Ver.Vr.cells R3
    obtain ⟨k4a, k4b, k4c, k4d⟩ := Ver.Vr.cells R4
    have HR0 : Hid (Ver.Vr W7 (W1.heap.size) a1 b1 c1 p1) := R0
    have HR1 : Hid (Ver.Vr W7 (W1.heap.size + 1 + 1 + 1) a1 b1 c1 ⟨#[]⟩) := R1
    have HR2 : Hid (Ver.Vr W7 (W2.heap.size) a1 b1 (c1 + 1) ⟨#[]⟩) := R2
    have HR3 : Hid (Ver.Vr W7 (W3.heap.size) a1 (b1 + 1) 0 ⟨#[]⟩) := R3
    have HR4 : Hid (Ver.Vr W7 (W4.heap.size) (a1 + 1) 0 0 ⟨#[]⟩) := R4
    clear R0 R1 R2 R3 R4
    go_wp2_with fail
    refine (qc _).mono ?_
    rintro e W8 ⟨rfl, bw⟩
    have R0 := Ver.Vr.same HR0.out bw
    have R1 := Ver.Vr.same HR1.out bw
    have R2 := Ver.Vr.same HR2.out bw
    have R3 := Ver.Vr.same HR3.out bw
    have R4 := Ver.Vr.same HR4.out bw
    have B' : Below w.heap.size w W8 := B.trans (bw.mono B.size)
    clear B bw HR0 HR1 HR2 HR3 HR4 k0a k0b k0c k0d k1a k1b k1c k1d k2a k2b k2c k2d k3a k3b k3c k3d k4a k4b k4c k4d
    have B := B'
    clear B'
    obtain ⟨k0a, k0b, k0c, k0d⟩ := Ver.Vr.cells R0
    obtain ⟨k1a, k1b, k1c, k1d⟩ := Ver.Vr.cells R1
    obtain ⟨k2a, k2b, k2c, k2d⟩ := Ver.Vr.cells R2
    obtain ⟨k3a, k3b, k3c, k3d⟩ := Ver.Vr.cells R3
    obtain ⟨k4a, k4b, k4c, k4d⟩ := Ver.Vr.cells R4
    have HR0 : Hid (Ver.Vr W8 (W1.heap.size) a1 b1 c1 p1) := R0
    have HR1 : Hid (Ver.Vr W8 (W1.heap.size + 1 + 1 + 1) a1 b1 c1 ⟨#[]⟩) := R1
    have HR2 : Hid (Ver.Vr W8 (W2.heap.size) a1 b1 (c1 + 1) ⟨#[]⟩) := R2
    have HR3 : Hid (Ver.Vr W8 (W3.heap.size) a1 (b1 + 1) 0 ⟨#[]⟩) := R3
    have HR4 : Hid (Ver.Vr W8 (W4.heap.size) (a1 + 1) 0 0 ⟨#[]⟩) := R4
    clear R0 R1 R2 R3 R4
    go_wp2_with fail
    refine (qk _).mono ?_
    rintro e W9 ⟨rfl, bw⟩
    have R0 := Ver.Vr.same HR0.out bw
    have R1 := Ver.Vr.same HR1.out bw
    have R2 := Ver.Vr.same HR2.out bw
    have R3 := Ver.Vr.same HR3.out bw
    have R4 := Ver.Vr.same HR4.out bw
    have B' : Below w.heap.size w W9 := B.trans (bw.mono B.size)
    clear B bw HR0 HR1 HR2 HR3 HR4 k0a k0b k0c k0d k1a k1b k1c k1d k2a k2b k2c k2d k3a k3b k3c k3d k4a k4b k4c k4d
    have B := B'
    clear B'
    obtain ⟨k0a, k0b, k0c, k0d⟩ := Ver.Vr.cells R0
    obtain ⟨k1a, k1b, k1c, k1d⟩ := Ver.Vr.cells R1
    obtain ⟨k2a, k2b, k2c, k2d⟩ := Ver.Vr.cells R2
    obtain ⟨k3a, k3b, k3c, k3d⟩ := Ver.Vr.cells R3
    obtain ⟨k4a, k4b, k4c, k4d⟩ := Ver.Vr.cells R4
    have HR0 : Hid (Ver.Vr W9 (W1.heap.size) a1 b1 c1 p1) := R0
    have HR1 : Hid (Ver.Vr W9 (W1.heap.size + 1 + 1 + 1) a1 b1 c1 ⟨#[]⟩) := R1
    have HR2 : Hid (Ver.Vr W9 (W2.heap.size) a1 b1 (c1 + 1) ⟨#[]⟩) := R2
    have HR3 : Hid (Ver.Vr W9 (W3.heap.size) a1 (b1 + 1) 0 ⟨#[]⟩) := R3
    have HR4 : Hid (Ver.Vr W9 (W4.heap.size) (a1 + 1) 0 0 ⟨#[]⟩) := R4
    clear R0 R1 R2 R3 R4
    go_wp2_with fail
    go_ret
    exact ⟨rfl, B⟩

set_option maxRecDepth 100000 in
theorem lifted (os : Os) (started : os.Started) (H : Type) (enc : TypeId × Value → H) :
    ReturnsInHanded {} Try.checked os 3 .any (Rows.fnPreSpec.pre6 enc Try.prog Try.f3 Rows.fnPreRow.domain false) (Rows.fnPreSpec.post enc Try.prog Try.f3 false true false false) := by
  refine returnsInHanded_of_change (C := Try.checked) own started (by kernel_rfl) Try.func3
    (ChangeSpec.witness6 (enc := enc) (C := Try.checked) false ⟨#[], #[.slice none 0 0], []⟩ 8 (by kernel_rfl) (by kernel_rfl) (by kernel_rfl) (by kernel_rfl)) ?_
  intro W base args ds gs before hval0 hW hcnd _
  have hval : ∀ (j : Nat) t v, Try.f3.params[j]? = some t → args[j]? = some v → Value.okWide Try.prog W .any base t v := hval0
  have hW' := hW
  obtain ⟨p, q, hA0, hV, rfl, hfz, hnd⟩ := hW
  have hA : DataW.TrodAll enc Try.prog W 0 (fun _ => true) true Try.f3.params.toList args.toList ds p := hA0
  rw [Try.params3] at hA hval
  obtain ⟨v0, vs0, d0, ds0, p0, q0, hargs, rfl, rfl, h0, r0⟩ := trodAll_cons hA
  obtain ⟨rfl, rfl, rfl⟩ := trodAll_nil r0
  obtain rfl : args = #[v0] := by cases args; simp_all
  obtain ⟨rfl, rfl⟩ := trodVars_none hV
  obtain ⟨a0, len0, cap0, rfl⟩ := okWide_slice Try.underlying22 (hval 0 22 v0 rfl rfl)
  have k0 := h0
  have lt0 : ∀ x ∈ p0, x.block < W.heap.size := by obtain ⟨m, hm⟩ := k0; exact DataW.trod_lt m _ _ _ hm
  obtain ⟨xs0, t0, y0, m0⟩ : ∃ xs, Mem.Sl W (.slice a0 len0 cap0) (Mem.bs xs) ∧ Mem.Byt xs ∧ xs.length ≤ maxLen := by
    obtain ⟨fuel, hf⟩ := h0
    rcases open_ints Try.underlying22 Try.underlying5 (by kernel_rfl) hf with ⟨hcs, _⟩ | ⟨x, l, c, zs, hcs, _, hl, hm, hz, _, hcell, hwz⟩
    · simp [Value.cells] at hcs
      obtain ⟨rfl, rfl, rfl⟩ := hcs
      obtain ⟨xs, hs, _, hy⟩ := RowSl.row_sl (w := W) (a := none) (len := 0) (cap := 0) (zs := []) (.inl ⟨rfl, rfl, rfl, rfl⟩)
      exact ⟨xs, hs, hy, by have h0 : xs.length = 0 := (by omega); rw [h0]; exact Nat.zero_le _⟩
    · simp [Value.cells] at hcs
      obtain ⟨rfl, rfl, rfl⟩ := hcs
      obtain ⟨xs, hs, he, hy⟩ := RowSl.row_sl (w := W) (.inr ⟨_, rfl, hl, hm, by simpa using hz, hcell, hwz⟩)
      exact ⟨xs, hs, hy, by rw [← he]; exact Nat.le_trans hl hm⟩
  clear hA0 hval0
  refine (walk W _ xs0 t0 y0 m0).mono fun e W' ⟨he, bel⟩ => ?_
  subst he
  exact ⟨_, rfl, _, _, _, [], _, [], hW', trodAll_mk1 (shut_bool Try.underlying4 _), (trodAll_cons_mk (Below.trod laidOut (by kernel_rfl) (of_decide_eq_true (by kernel_rfl)) k0 bel lt0) trodAll_mk0), rfl, bel.frame _, fun h => by cases h⟩

theorem over : Rows.fnPreRow.holds Try.pinned (OpenSpec.ofChange Rows.fnPreSpec) :=
  OpenClaim.holds_of_wide 3 Try.f3 rfl rfl rfl rfl rfl rfl rfl ⟨rfl, rfl, rfl, rfl, rfl⟩ rfl rfl rfl rfl rfl (by kernel_rfl) Try.func3 (by kernel_rfl)
    (of_decide_eq_true (by kernel_rfl)) (by unfold Func.isWrapper; first | (rw [if_pos (by decide +kernel)]; kernel_rfl) | (rw [if_neg (by decide +kernel)]; exact ⟨rfl, rfl⟩))
    (fun os started H enc _ => lifted os started H enc)

end Go.Proofs.Ytbpgdagmffbagah.fnPre
namespace Go.Proofs.Ytbpgdagmffbagah
theorem fnPre_holds : Rows.FnPreSaid := fnPre.over
end Go.Proofs.Ytbpgdagmffbagah
