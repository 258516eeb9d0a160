/- For every input the law 'FnOrder' returns true and leaves its arguments as they were: proved without a condition, over the turned code of the commit beside it. -/
import Derived.Test.YtbpgdagmffbagabRows
import Derived.WalkKit
import Derived.Test.YtbpgdagmffbagabBytes
import Derived.Test.YtbpgdagmffbagabOrdL
import Derived.Test.YtbpgdagmffbagabRowSl
import Derived.ProofKit
import Derived.OpenShut
import Derived.ShutString
import Derived.ChangeOld
import Derived.Below
import Derived.SliceStrings
namespace Go.Proofs.Ytbpgdagmffbagab.fnOrder
open Go.ChangeShapes Go.WideShapes Go.ChangeAt Go.RowKit
open Go.ChangeMaps (open_string shut_string)
set_option linter.unusedVariables false

theorem own : ownKnob Try.prog.godebug = none := by kernel_rfl
theorem laidOut : laidOutB Try.prog = true := by kernel_rfl

set_option maxRecDepth 1000000 in
set_option maxHeartbeats 4000000 in
theorem walk (w : World) (v0 : Value) (xs0 : List Int) (h0 : Mem.Sl w v0 (Mem.bs xs0)) (y0 : Mem.Byt xs0) (m0 : xs0.length ≤ maxLen) :
    Calls Try.prog 3 #[v0] w fun e w' => e = .returned (.bool true) ∧ Below w.heap.size w w' := by
  unfold maxLen at m0
  by_cases hbig : 1048576 < xs0.length
  · obtain ⟨ao, cap, rfl, _, _, _⟩ := h0
    rw [Mem.bs_len]
    go_enter Try.func3, Try.ntmps3
    go_wp2_with (go_at_call 5; refine (Draw.big_yes _ _ _ _ hbig).mono ?_; rintro e w1 ⟨rfl, rfl⟩)
    go_ret
    exact ⟨rfl, Below.refl _ _⟩
  have q1 := Ver.three_agg w v0 xs0 h0 y0 (by omega)
  obtain ⟨ao, cap, rfl, _, _, _⟩ := h0
  rw [Mem.bs_len] at q1 ⊢
  go_enter Try.func3, Try.ntmps3
  go_wp2_with fail
  refine (Draw.big_no _ _ _ _ hbig).mono ?_
  rintro e w0 ⟨rfl, rfl⟩
  go_wp2_with fail
  refine q1.mono ?_
  rintro e W1 ⟨a1, b1, c1, p1, a2, b2, c2, p2, a3, b3, c3, p3, rfl, D1, D2, D3, B0⟩
  have HD1 : Hid (Ver.Dv a1 b1 c1 p1) := D1
  have HD2 : Hid (Ver.Dv a2 b2 c2 p2) := D2
  have HD3 : Hid (Ver.Dv a3 b3 c3 p3) := D3
  have B : Below w.heap.size w (((W1.alloc (.cells #[.int .i64 a1, .int .i64 b1, .int .i64 c1, .string p1] 25)).alloc (.cells #[.int .i64 a2, .int .i64 b2, .int .i64 c2, .string p2] 25)).alloc (.cells #[.int .i64 a3, .int .i64 b3, .int .i64 c3, .string p3] 25)) := B0.trans ((Ver.below3 W1 _ _ _).mono B0.size)
  have R0 : Ver.Vr (((W1.alloc (.cells #[.int .i64 a1, .int .i64 b1, .int .i64 c1, .string p1] 25)).alloc (.cells #[.int .i64 a2, .int .i64 b2, .int .i64 c2, .string p2] 25)).alloc (.cells #[.int .i64 a3, .int .i64 b3, .int .i64 c3, .string p3] 25)) W1.heap.size a1 b1 c1 p1 := Ver.first3 W1 _ _ _
  have R1 : Ver.Vr (((W1.alloc (.cells #[.int .i64 a1, .int .i64 b1, .int .i64 c1, .string p1] 25)).alloc (.cells #[.int .i64 a2, .int .i64 b2, .int .i64 c2, .string p2] 25)).alloc (.cells #[.int .i64 a3, .int .i64 b3, .int .i64 c3, .string p3] 25)) (W1.heap.size + 1) a2 b2 c2 p2 := Ver.mid3 W1 _ _ _
  have R2 : Ver.Vr (((W1.alloc (.cells #[.int .i64 a1, .int .i64 b1, .int .i64 c1, .string p1] 25)).alloc (.cells #[.int .i64 a2, .int .i64 b2, .int .i64 c2, .string p2] 25)).alloc (.cells #[.int .i64 a3, .int .i64 b3, .int .i64 c3, .string p3] 25)) (W1.heap.size + 1 + 1) a3 b3 c3 p3 := Ver.last3 W1 _ _ _
  clear q1 B0 D1 D2 D3
  obtain ⟨k0a, k0b, k0c, k0d⟩ := Ver.Vr.cells R0
  obtain ⟨k1a, k1b, k1c, k1d⟩ := Ver.Vr.cells R1
  obtain ⟨k2a, k2b, k2c, k2d⟩ := Ver.Vr.cells R2
  have HR0 : Hid (Ver.Vr (((W1.alloc (.cells #[.int .i64 a1, .int .i64 b1, .int .i64 c1, .string p1] 25)).alloc (.cells #[.int .i64 a2, .int .i64 b2, .int .i64 c2, .string p2] 25)).alloc (.cells #[.int .i64 a3, .int .i64 b3, .int .i64 c3, .string p3] 25)) (W1.heap.size) a1 b1 c1 p1) := R0
  have HR1 : Hid (Ver.Vr (((W1.alloc (.cells #[.int .i64 a1, .int .i64 b1, .int .i64 c1, .string p1] 25)).alloc (.cells #[.int .i64 a2, .int .i64 b2, .int .i64 c2, .string p2] 25)).alloc (.cells #[.int .i64 a3, .int .i64 b3, .int .i64 c3, .string p3] 25)) (W1.heap.size + 1) a2 b2 c2 p2) := R1
  have HR2 : Hid (Ver.Vr (((W1.alloc (.cells #[.int .i64 a1, .int .i64 b1, .int .i64 c1, .string p1] 25)).alloc (.cells #[.int .i64 a2, .int .i64 b2, .int .i64 c2, .string p2] 25)).alloc (.cells #[.int .i64 a3, .int .i64 b3, .int .i64 c3, .string p3] 25)) (W1.heap.size + 1 + 1) a3 b3 c3 p3) := R2
  clear R0 R1 R2
  obtain ⟨l12, e12⟩ : ∃ x, decide (Ver.cmpV a1 b1 c1 p1 a2 b2 c2 p2 < 0) = x := ⟨_, rfl⟩
  obtain ⟨l21, e21⟩ : ∃ x, decide (Ver.cmpV a2 b2 c2 p2 a1 b1 c1 p1 < 0) = x := ⟨_, rfl⟩
  obtain ⟨l23, e23⟩ : ∃ x, decide (Ver.cmpV a2 b2 c2 p2 a3 b3 c3 p3 < 0) = x := ⟨_, rfl⟩
  obtain ⟨l13, e13⟩ : ∃ x, decide (Ver.cmpV a1 b1 c1 p1 a3 b3 c3 p3 < 0) = x := ⟨_, rfl⟩
  obtain ⟨eq12, f12⟩ : ∃ x, Ver.sameV a1 b1 c1 p1 a2 b2 c2 p2 = x := ⟨_, rfl⟩
  have q12 : ∀ W, _ := fun W => Ver.less_agg W a1 b1 c1 p1 a2 b2 c2 p2 HD1.out.size HD2.out.size
  have q21 : ∀ W, _ := fun W => Ver.less_agg W a2 b2 c2 p2 a1 b1 c1 p1 HD2.out.size HD1.out.size
  have q23 : ∀ W, _ := fun W => Ver.less_agg W a2 b2 c2 p2 a3 b3 c3 p3 HD2.out.size HD3.out.size
  have q13 : ∀ W, _ := fun W => Ver.less_agg W a1 b1 c1 p1 a3 b3 c3 p3 HD1.out.size HD3.out.size
  have q11 : ∀ W, _ := fun W => Ver.less_agg W a1 b1 c1 p1 a1 b1 c1 p1 HD1.out.size HD1.out.size
  have s12 : ∀ W, _ := fun W => Ver.lessS_agg W a1 b1 c1 p1 a2 b2 c2 p2 HD1.out.size HD2.out.size
  have hS : Ver.lessV a1 b1 c1 p1 a2 b2 c2 p2 = l12 := by rw [← e12, Ver.less_D HD1.out.2.2.2 HD2.out.2.2.2, Ver.lessV_D HD1.out.2.2.2 HD2.out.2.2.2]
  have h11 : decide (Ver.cmpV a1 b1 c1 p1 a1 b1 c1 p1 < 0) = false := by rw [Ver.less_D HD1.out.2.2.2 HD1.out.2.2.2]; simp
  have K := Ver.order_facts HD1.out HD2.out HD3.out
  rw [e12, e21, e23, e13, f12] at K
  rw [e12] at q12
  rw [e21] at q21
  rw [e23] at q23
  rw [e13] at q13
  rw [h11] at q11
  rw [hS] at s12
  have hn := fun W => Ver.neqV W a1 b1 c1 p1 a2 b2 c2 p2
  rw [f12] at hn
  have hgd := Ver.grdV
  obtain ⟨K1, K2, K3⟩ := K
  have HK1 : Hid _ := K1
  have HK2 : Hid _ := K2
  have HK3 : Hid _ := K3
  clear e12 e21 e23 e13 f12 hS h11 K1 K2 K3
  go_wp2_with fail
  refine (q12 _).mono ?_
  rintro e W2 ⟨rfl, b1⟩
  have R0 := Ver.Vr.same HR0.out b1
  have R1 := Ver.Vr.same HR1.out b1
  have R2 := Ver.Vr.same HR2.out b1
  have B' : Below w.heap.size w W2 := B.trans (b1.mono B.size)
  clear B b1 HR0 HR1 HR2 k0a k0b k0c k0d k1a k1b k1c k1d k2a k2b k2c k2d
  have B := B'
  clear B'
  obtain ⟨k0a, k0b, k0c, k0d⟩ := Ver.Vr.cells R0
  obtain ⟨k1a, k1b, k1c, k1d⟩ := Ver.Vr.cells R1
  obtain ⟨k2a, k2b, k2c, k2d⟩ := Ver.Vr.cells R2
  have HR0 : Hid (Ver.Vr W2 (W1.heap.size) a1 b1 c1 p1) := R0
  have HR1 : Hid (Ver.Vr W2 (W1.heap.size + 1) a2 b2 c2 p2) := R1
  have HR2 : Hid (Ver.Vr W2 (W1.heap.size + 1 + 1) a3 b3 c3 p3) := R2
  clear R0 R1 R2
  go_wp2_with fail
  refine (q21 _).mono ?_
  rintro e W3 ⟨rfl, b1⟩
  have R0 := Ver.Vr.same HR0.out b1
  have R1 := Ver.Vr.same HR1.out b1
  have R2 := Ver.Vr.same HR2.out b1
  have B' : Below w.heap.size w W3 := B.trans (b1.mono B.size)
  clear B b1 HR0 HR1 HR2 k0a k0b k0c k0d k1a k1b k1c k1d k2a k2b k2c k2d
  have B := B'
  clear B'
  obtain ⟨k0a, k0b, k0c, k0d⟩ := Ver.Vr.cells R0
  obtain ⟨k1a, k1b, k1c, k1d⟩ := Ver.Vr.cells R1
  obtain ⟨k2a, k2b, k2c, k2d⟩ := Ver.Vr.cells R2
  have HR0 : Hid (Ver.Vr W3 (W1.heap.size) a1 b1 c1 p1) := R0
  have HR1 : Hid (Ver.Vr W3 (W1.heap.size + 1) a2 b2 c2 p2) := R1
  have HR2 : Hid (Ver.Vr W3 (W1.heap.size + 1 + 1) a3 b3 c3 p3) := R2
  clear R0 R1 R2
  cases l12
  · cases l21
    · cases eq12
      · exact absurd HK2.out (by decide)
      · go_wp2_with fail
        refine (s12 _).mono ?_
        rintro e W4 ⟨rfl, b1⟩
        have R0 := Ver.Vr.same HR0.out b1
        have R1 := Ver.Vr.same HR1.out b1
        have R2 := Ver.Vr.same HR2.out b1
        have B' : Below w.heap.size w W4 := B.trans (b1.mono B.size)
        clear B b1 HR0 HR1 HR2 k0a k0b k0c k0d k1a k1b k1c k1d k2a k2b k2c k2d
        have B := B'
        clear B'
        obtain ⟨k0a, k0b, k0c, k0d⟩ := Ver.Vr.cells R0
        obtain ⟨k1a, k1b, k1c, k1d⟩ := Ver.Vr.cells R1
        obtain ⟨k2a, k2b, k2c, k2d⟩ := Ver.Vr.cells R2
        have HR0 : Hid (Ver.Vr W4 (W1.heap.size) a1 b1 c1 p1) := R0
        have HR1 : Hid (Ver.Vr W4 (W1.heap.size + 1) a2 b2 c2 p2) := R1
        have HR2 : Hid (Ver.Vr W4 (W1.heap.size + 1 + 1) a3 b3 c3 p3) := R2
        clear R0 R1 R2
        go_wp2_with fail
        refine (q11 _).mono ?_
        rintro e W5 ⟨rfl, b1⟩
        have R0 := Ver.Vr.same HR0.out b1
        have R1 := Ver.Vr.same HR1.out b1
        have R2 := Ver.Vr.same HR2.out b1
        have B' : Below w.heap.size w W5 := B.trans (b1.mono B.size)
        clear B b1 HR0 HR1 HR2 k0a k0b k0c k0d k1a k1b k1c k1d k2a k2b k2c k2d
        have B := B'
        clear B'
        obtain ⟨k0a, k0b, k0c, k0d⟩ := Ver.Vr.cells R0
        obtain ⟨k1a, k1b, k1c, k1d⟩ := Ver.Vr.cells R1
        obtain ⟨k2a, k2b, k2c, k2d⟩ := Ver.Vr.cells R2
        have HR0 : Hid (Ver.Vr W5 (W1.heap.size) a1 b1 c1 p1) := R0
        have HR1 : Hid (Ver.Vr W5 (W1.heap.size + 1) a2 b2 c2 p2) := R1
        have HR2 : Hid (Ver.Vr W5 (W1.heap.size + 1 + 1) a3 b3 c3 p3) := R2
        clear R0 R1 R2
        go_wp2_with fail
        go_ret
        exact ⟨rfl, B⟩
    · cases eq12
      · go_wp2_with fail
        refine (s12 _).mono ?_
        rintro e W4 ⟨rfl, b1⟩
        have R0 := Ver.Vr.same HR0.out b1
        have R1 := Ver.Vr.same HR1.out b1
        have R2 := Ver.Vr.same HR2.out b1
        have B' : Below w.heap.size w W4 := B.trans (b1.mono B.size)
        clear B b1 HR0 HR1 HR2 k0a k0b k0c k0d k1a k1b k1c k1d k2a k2b k2c k2d
        have B := B'
        clear B'
        obtain ⟨k0a, k0b, k0c, k0d⟩ := Ver.Vr.cells R0
        obtain ⟨k1a, k1b, k1c, k1d⟩ := Ver.Vr.cells R1
        obtain ⟨k2a, k2b, k2c, k2d⟩ := Ver.Vr.cells R2
        have HR0 : Hid (Ver.Vr W4 (W1.heap.size) a1 b1 c1 p1) := R0
        have HR1 : Hid (Ver.Vr W4 (W1.heap.size + 1) a2 b2 c2 p2) := R1
        have HR2 : Hid (Ver.Vr W4 (W1.heap.size + 1 + 1) a3 b3 c3 p3) := R2
        clear R0 R1 R2
        go_wp2_with fail
        refine (q11 _).mono ?_
        rintro e W5 ⟨rfl, b1⟩
        have R0 := Ver.Vr.same HR0.out b1
        have R1 := Ver.Vr.same HR1.out b1
        have R2 := Ver.Vr.same HR2.out b1
        have B' : Below w.heap.size w W5 := B.trans (b1.mono B.size)
        clear B b1 HR0 HR1 HR2 k0a k0b k0c k0d k1a k1b k1c k1d k2a k2b k2c k2d
        have B := B'
        clear B'
        obtain ⟨k0a, k0b, k0c, k0d⟩ := Ver.Vr.cells R0
        obtain ⟨k1a, k1b, k1c, k1d⟩ := Ver.Vr.cells R1
        obtain ⟨k2a, k2b, k2c, k2d⟩ := Ver.Vr.cells R2
        have HR0 : Hid (Ver.Vr W5 (W1.heap.size) a1 b1 c1 p1) := R0
        have HR1 : Hid (Ver.Vr W5 (W1.heap.size + 1) a2 b2 c2 p2) := R1
        have HR2 : Hid (Ver.Vr W5 (W1.heap.size + 1 + 1) a3 b3 c3 p3) := R2
        clear R0 R1 R2
        go_wp2_with fail
        go_ret
        exact ⟨rfl, B⟩
      · exact absurd HK2.out (by decide)
  · cases l21
    · cases eq12
      · go_wp2_with fail
        refine (s12 _).mono ?_
        rintro e W4 ⟨rfl, b1⟩
        have R0 := Ver.Vr.same HR0.out b1
        have R1 := Ver.Vr.same HR1.out b1
        have R2 := Ver.Vr.same HR2.out b1
        have B' : Below w.heap.size w W4 := B.trans (b1.mono B.size)
        clear B b1 HR0 HR1 HR2 k0a k0b k0c k0d k1a k1b k1c k1d k2a k2b k2c k2d
        have B := B'
        clear B'
        obtain ⟨k0a, k0b, k0c, k0d⟩ := Ver.Vr.cells R0
        obtain ⟨k1a, k1b, k1c, k1d⟩ := Ver.Vr.cells R1
        obtain ⟨k2a, k2b, k2c, k2d⟩ := Ver.Vr.cells R2
        have HR0 : Hid (Ver.Vr W4 (W1.heap.size) a1 b1 c1 p1) := R0
        have HR1 : Hid (Ver.Vr W4 (W1.heap.size + 1) a2 b2 c2 p2) := R1
        have HR2 : Hid (Ver.Vr W4 (W1.heap.size + 1 + 1) a3 b3 c3 p3) := R2
        clear R0 R1 R2
        go_wp2_with fail
        refine (q11 _).mono ?_
        rintro e W5 ⟨rfl, b1⟩
        have R0 := Ver.Vr.same HR0.out b1
        have R1 := Ver.Vr.same HR1.out b1
        have R2 := Ver.Vr.same HR2.out b1
        have B' : Below w.heap.size w W5 := B.trans (b1.mono B.size)
        clear B b1 HR0 HR1 HR2 k0a k0b k0c k0d k1a k1b k1c k1d k2a k2b k2c k2d
        have B := B'
        clear B'
        obtain ⟨k0a, k0b, k0c, k0d⟩ := Ver.Vr.cells R0
        obtain ⟨k1a, k1b, k1c, k1d⟩ := Ver.Vr.cells R1
        obtain ⟨k2a, k2b, k2c, k2d⟩ := Ver.Vr.cells R2
        have HR0 : Hid (Ver.Vr W5 (W1.heap.size) a1 b1 c1 p1) := R0
        have HR1 : Hid (Ver.Vr W5 (W1.heap.size + 1) a2 b2 c2 p2) := R1
        have HR2 : Hid (Ver.Vr W5 (W1.heap.size + 1 + 1) a3 b3 c3 p3) := R2
        clear R0 R1 R2
        go_wp2_with fail
        refine (q23 _).mono ?_
        rintro e W6 ⟨rfl, b1⟩
        have R0 := Ver.Vr.same HR0.out b1
        have R1 := Ver.Vr.same HR1.out b1
        have R2 := Ver.Vr.same HR2.out b1
        have B' : Below w.heap.size w W6 := B.trans (b1.mono B.size)
        clear B b1 HR0 HR1 HR2 k0a k0b k0c k0d k1a k1b k1c k1d k2a k2b k2c k2d
        have B := B'
        clear B'
        obtain ⟨k0a, k0b, k0c, k0d⟩ := Ver.Vr.cells R0
        obtain ⟨k1a, k1b, k1c, k1d⟩ := Ver.Vr.cells R1
        obtain ⟨k2a, k2b, k2c, k2d⟩ := Ver.Vr.cells R2
        have HR0 : Hid (Ver.Vr W6 (W1.heap.size) a1 b1 c1 p1) := R0
        have HR1 : Hid (Ver.Vr W6 (W1.heap.size + 1) a2 b2 c2 p2) := R1
        have HR2 : Hid (Ver.Vr W6 (W1.heap.size + 1 + 1) a3 b3 c3 p3) := R2
        clear R0 R1 R2
        cases l23
        · go_wp2_with fail
          go_ret
          exact ⟨rfl, B⟩
        · have h13 : l13 = true := by have h := HK3.out; simpa using h
          subst h13
          go_wp2_with fail
          refine (q13 _).mono ?_
          rintro e W7 ⟨rfl, b1⟩
          have R0 := Ver.Vr.same HR0.out b1
          have R1 := Ver.Vr.same HR1.out b1
          have R2 := Ver.Vr.same HR2.out b1
          have B' : Below w.heap.size w W7 := B.trans (b1.mono B.size)
          clear B b1 HR0 HR1 HR2 k0a k0b k0c k0d k1a k1b k1c k1d k2a k2b k2c k2d
          have B := B'
          clear B'
          obtain ⟨k0a, k0b, k0c, k0d⟩ := Ver.Vr.cells R0
          obtain ⟨k1a, k1b, k1c, k1d⟩ := Ver.Vr.cells R1
          obtain ⟨k2a, k2b, k2c, k2d⟩ := Ver.Vr.cells R2
          have HR0 : Hid (Ver.Vr W7 (W1.heap.size) a1 b1 c1 p1) := R0
          have HR1 : Hid (Ver.Vr W7 (W1.heap.size + 1) a2 b2 c2 p2) := R1
          have HR2 : Hid (Ver.Vr W7 (W1.heap.size + 1 + 1) a3 b3 c3 p3) := R2
          clear R0 R1 R2
          go_wp2_with fail
          go_ret
          exact ⟨rfl, B⟩
      · exact absurd HK2.out (by decide)
    · exact absurd HK1.out (by decide)

set_option maxRecDepth 100000 in
theorem lifted (os : Os) (started : os.Started) (H : Type) (enc : TypeId × Value → H) :
    ReturnsInHanded {} Try.checked os 3 .any (Rows.fnOrderSpec.pre6 enc Try.prog Try.f3 Rows.fnOrderRow.domain false) (Rows.fnOrderSpec.post enc Try.prog Try.f3 false true false false) := by
  refine returnsInHanded_of_change (C := Try.checked) own started (by kernel_rfl) Try.func3
    (ChangeSpec.witness6 (enc := enc) (C := Try.checked) false ⟨#[], #[.slice none 0 0], []⟩ 8 (by kernel_rfl) (by kernel_rfl) (by kernel_rfl) (by kernel_rfl)) ?_
  intro W base args ds gs before hval0 hW hcnd _
  have hval : ∀ (j : Nat) t v, Try.f3.params[j]? = some t → args[j]? = some v → Value.okWide Try.prog W .any base t v := hval0
  have hW' := hW
  obtain ⟨p, q, hA0, hV, rfl, hfz, hnd⟩ := hW
  have hA : DataW.TrodAll enc Try.prog W 0 (fun _ => true) true Try.f3.params.toList args.toList ds p := hA0
  rw [Try.params3] at hA hval
  obtain ⟨v0, vs0, d0, ds0, p0, q0, hargs, rfl, rfl, h0, r0⟩ := trodAll_cons hA
  obtain ⟨rfl, rfl, rfl⟩ := trodAll_nil r0
  obtain rfl : args = #[v0] := by cases args; simp_all
  obtain ⟨rfl, rfl⟩ := trodVars_none hV
  obtain ⟨a0, len0, cap0, rfl⟩ := okWide_slice Try.underlying22 (hval 0 22 v0 rfl rfl)
  have k0 := h0
  have lt0 : ∀ x ∈ p0, x.block < W.heap.size := by obtain ⟨m, hm⟩ := k0; exact DataW.trod_lt m _ _ _ hm
  obtain ⟨xs0, t0, y0, m0⟩ : ∃ xs, Mem.Sl W (.slice a0 len0 cap0) (Mem.bs xs) ∧ Mem.Byt xs ∧ xs.length ≤ maxLen := by
    obtain ⟨fuel, hf⟩ := h0
    rcases open_ints Try.underlying22 Try.underlying5 (by kernel_rfl) hf with ⟨hcs, _⟩ | ⟨x, l, c, zs, hcs, _, hl, hm, hz, _, hcell, hwz⟩
    · simp [Value.cells] at hcs
      obtain ⟨rfl, rfl, rfl⟩ := hcs
      obtain ⟨xs, hs, _, hy⟩ := RowSl.row_sl (w := W) (a := none) (len := 0) (cap := 0) (zs := []) (.inl ⟨rfl, rfl, rfl, rfl⟩)
      exact ⟨xs, hs, hy, by have h0 : xs.length = 0 := (by omega); rw [h0]; exact Nat.zero_le _⟩
    · simp [Value.cells] at hcs
      obtain ⟨rfl, rfl, rfl⟩ := hcs
      obtain ⟨xs, hs, he, hy⟩ := RowSl.row_sl (w := W) (.inr ⟨_, rfl, hl, hm, by simpa using hz, hcell, hwz⟩)
      exact ⟨xs, hs, hy, by rw [← he]; exact Nat.le_trans hl hm⟩
  clear hA0 hval0
  refine (walk W _ xs0 t0 y0 m0).mono fun e W' ⟨he, bel⟩ => ?_
  subst he
  exact ⟨_, rfl, _, _, _, [], _, [], hW', trodAll_mk1 (shut_bool Try.underlying4 _), (trodAll_cons_mk (Below.trod laidOut (by kernel_rfl) (of_decide_eq_true (by kernel_rfl)) k0 bel lt0) trodAll_mk0), rfl, bel.frame _, fun h => by cases h⟩

theorem over : Rows.fnOrderRow.holds Try.pinned (OpenSpec.ofChange Rows.fnOrderSpec) :=
  OpenClaim.holds_of_wide 3 Try.f3 rfl rfl rfl rfl rfl rfl rfl ⟨rfl, rfl, rfl, rfl, rfl⟩ rfl rfl rfl rfl rfl (by kernel_rfl) Try.func3 (by kernel_rfl)
    (of_decide_eq_true (by kernel_rfl)) (by unfold Func.isWrapper; first | (rw [if_pos (by decide +kernel)]; kernel_rfl) | (rw [if_neg (by decide +kernel)]; exact ⟨rfl, rfl⟩))
    (fun os started H enc _ => lifted os started H enc)

end Go.Proofs.Ytbpgdagmffbagab.fnOrder
namespace Go.Proofs.Ytbpgdagmffbagab
theorem fnOrder_holds : Rows.FnOrderSaid := fnOrder.over
end Go.Proofs.Ytbpgdagmffbagab
