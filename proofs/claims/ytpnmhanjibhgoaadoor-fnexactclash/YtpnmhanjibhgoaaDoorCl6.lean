/- Chapter 8: the exact laws, over contracts of the landed functions. -/
import Derived.Test.YtpnmhanjibhgoaaDoorCl4
import Derived.Test.YtpnmhanjibhgoaaDoorTrX
import Derived.Test.YtpnmhanjibhgoaaDoorSz2
namespace Go.Proofs.YtpnmhanjibhgoaaDoor.Cl
open Go.RowKit Go.Proofs.YtpnmhanjibhgoaaDoor.Mem Go.Proofs.YtpnmhanjibhgoaaDoor.Laws Go.Proofs.YtpnmhanjibhgoaaDoor.Bytes Go.Proofs.YtpnmhanjibhgoaaDoor.Sha Go.Proofs.YtpnmhanjibhgoaaDoor.Tr
set_option linter.unusedVariables false
set_option linter.unusedSimpArgs false

set_option maxRecDepth 1000000 in
set_option maxHeartbeats 1000000 in
theorem exact_isclash (w : World) (a b : ByteArray) (k : Int) (hm : a.size ≤ maxLen) (hm2 : b.size ≤ maxLen)
    (iF : ∀ W, Below w.heap.size w W → a.size ≤ 1048576 → b.size ≤ 1048576 → Calls Tryd.prog 12 #[.string a, .string b, .int .i64 k] W fun e w' => e = .returned (.bool (isClash a b k)) ∧ Below W.heap.size W w') :
    Calls Tryd.prog 4 #[.string a, .string b, .int .i64 k] w fun e w' => e = .returned (.bool true) ∧ Below w.heap.size w w' := by
  unfold maxLen at hm hm2
  by_cases hbig : 1048576 < a.size
  · have hb : (1048576 : Int) < (a.size : Int) := by omega
    clear iF
    go_enter Tryd.func4, Tryd.ntmps4
    go_wp2
    go_ret
    exact ⟨rfl, Below.refl _ _⟩
  have hb : ¬ (1048576 : Int) < (a.size : Int) := by omega
  by_cases hbig2 : 1048576 < b.size
  · have hb2 : (1048576 : Int) < (b.size : Int) := by omega
    clear iF
    go_enter Tryd.func4, Tryd.ntmps4
    go_wp2
    go_ret
    exact ⟨rfl, Below.refl _ _⟩
  · have hb2 : ¬ (1048576 : Int) < (b.size : Int) := by omega
    have q1 := isClash_spec w a b k (by omega) (by omega)
    have q2 : ∀ W, Below w.heap.size w W → _ := fun W hW => iF W hW (by omega) (by omega)
    obtain ⟨x, hx⟩ : ∃ x, isClash a b k = x := ⟨_, rfl⟩
    simp only [hx] at q1 q2
    have nok : (x != x) = false := by simp
    clear hx iF
    go_enter Tryd.func4, Tryd.ntmps4
    go_wp2_with fail
    refine q1.mono ?_
    rintro e W1 ⟨rfl, b1⟩
    go_wp2_with fail
    refine (q2 _ b1).mono ?_
    rintro e W2 ⟨rfl, b2⟩
    have B2 : Below w.heap.size w W2 := b1.trans (b2.mono b1.size)
    go_wp2
    go_ret
    exact ⟨rfl, B2⟩

set_option maxRecDepth 1000000 in
set_option maxHeartbeats 4000000 in
theorem exact_clash (w : World) (v0 v1 : Value) (l0 l1 : List ByteArray) (h0 : Sl w v0 (ss l0)) (y0 : ∀ s ∈ l0, s.size ≤ maxLen) (m0 : l0.length ≤ maxLen) (h1 : Sl w v1 (ss l1)) (y1 : ∀ s ∈ l1, s.size ≤ maxLen) (m1 : l1.length ≤ maxLen)
    (iF : ∀ W v v', Below w.heap.size w W → Sl W v (ss l0) → Sl W v' (ss l1) → l0.length ≤ 1048576 → l1.length ≤ 1048576 → (∀ s ∈ l0, s.size ≤ 1048576) → (∀ s ∈ l1, s.size ≤ 1048576) → Calls Tryd.prog 8 #[v, v'] W fun e w' => e = .returned (.tuple #[.string (clashOf l0 l1).1, .string (clashOf l0 l1).2.1, .bool (clashOf l0 l1).2.2]) ∧ Below W.heap.size W w') :
    Calls Tryd.prog 5 #[v0, v1] w fun e w' => e = .returned (.bool true) ∧ Below w.heap.size w w' := by
  have HS0 : Hid (Sl w v0 (ss l0)) := h0
  have HS1 : Hid (Sl w v1 (ss l1)) := h1
  obtain ⟨ao0, cap0, rfl, -, -, -⟩ := h0
  obtain ⟨ao1, cap1, rfl, -, -, -⟩ := h1
  simp only [ss_len] at *
  unfold maxLen at m0 y0 m1 y1
  have hsz := Strs.sz_any2 w _ l0 1048576 HS0.out y0 m0 (by omega)
  go_enter Tryd.func5, Tryd.ntmps5
  go_wp2_with fail
  refine hsz.mono ?_
  rintro e WX ⟨⟨r0, rfl, hr0⟩, hWX⟩
  subst hWX
  clear hsz
  by_cases hr : r0 < 0
  · go_wp2
    go_ret
    exact ⟨rfl, Below.refl _ _⟩
  have hr1 : l0.length + Puts.tot l0 ≤ 1048576 ∧ 0 ≤ r0 ∧ r0 ≤ 1048576 := by rcases hr0 with h | h; exact absurd h hr; exact h
  obtain ⟨hr1, hr2, hr3⟩ := hr1
  obtain ⟨n1, rfl⟩ : ∃ n1 : Nat, r0 = (n1 : Int) := ⟨r0.toNat, by omega⟩
  have hl0 : l0.length ≤ 1048576 := by omega
  have hz0 : ∀ s ∈ l0, s.size ≤ 1048576 := fun s h => Nat.le_trans (mem_tot h) (by omega)
  have hsz := Strs.sz_any2 w _ l1 n1 HS1.out y1 m1 (by omega)
  clear hr0 y0
  go_wp2_with fail
  refine hsz.mono ?_
  rintro e WX ⟨⟨r2, rfl, hr4⟩, hWX⟩
  subst hWX
  clear hsz
  by_cases hrr : r2 < 0
  · go_wp2
    go_ret
    exact ⟨rfl, Below.refl _ _⟩
  have hr5 : l1.length + Puts.tot l1 ≤ n1 := by rcases hr4 with h | h; exact absurd h hrr; exact h.1
  have hl1 : l1.length ≤ 1048576 := by omega
  have hz1 : ∀ s ∈ l1, s.size ≤ 1048576 := fun s h => Nat.le_trans (mem_tot h) (by omega)
  clear hr4 y1
  have q1 : ∀ W v v', Below w.heap.size w W → Sl W v (ss l0) → Sl W v' (ss l1) → _ := fun W v v' hW s0 s1 => iF W v v' hW s0 s1 hl0 hl1 hz0 hz1
  have q2 : ∀ W v v', Sl W v (ss l0) → Sl W v' (ss l1) → _ := fun W v v' s0 s1 => clash_spec W v v' l0 l1 s0 s1 (by omega) (by omega) (fun s h => Nat.le_trans (hz0 s h) (by omega)) (fun s h => Nat.le_trans (hz1 s h) (by omega))
  obtain ⟨x, y, t, hR⟩ : ∃ x y t, clashOf l0 l1 = (x, y, t) := ⟨_, _, _, rfl⟩
  simp only [hR] at q1 q2
  have nok : (t != t) = false := by simp
  clear hR iF hz0 hz1
  have B0 : Below w.heap.size w w := Below.refl _ _
  go_wp2_with fail
  refine (Strs.to_s w _ l0 (HS0.out.later B0) (by omega)).mono ?_
  rintro e W1 ⟨v1, rfl, o_v1_1, b1⟩
  have s1 := b1.size
  have B1 : Below w.heap.size w W1 := B0.trans (b1.mono B0.size)
  go_wp2_with fail
  refine (Strs.to_s W1 _ l1 (HS1.out.later B1) (by omega)).mono ?_
  rintro e W2 ⟨v2, rfl, o_v2_2, b2⟩
  have s2 := b2.size
  have B2 : Below w.heap.size w W2 := B1.trans (b2.mono B1.size)
  have o_v1_2 := o_v1_1.later b2 (by omega)
  clear o_v1_1
  go_wp2_with fail
  refine (q2 W2 _ _ o_v1_2.sl o_v2_2.sl).mono ?_
  rintro e W3 ⟨rfl, b3⟩
  have s3 := b3.size
  have B3 : Below w.heap.size w W3 := B2.trans (b3.mono B2.size)
  have o_v1_3 := o_v1_2.later b3 (by omega)
  have o_v2_3 := o_v2_2.later b3 (by omega)
  clear o_v1_2 o_v2_2
  clear o_v1_3
  clear o_v2_3
  go_wp2_with fail
  refine (Strs.to_s W3 _ l0 (HS0.out.later B3) (by omega)).mono ?_
  rintro e W4 ⟨x0, rfl, o_x0_4, b4⟩
  have s4 := b4.size
  have B4 : Below w.heap.size w W4 := B3.trans (b4.mono B3.size)
  go_wp2_with fail
  refine (Strs.to_s W4 _ l1 (HS1.out.later B4) (by omega)).mono ?_
  rintro e W5 ⟨x1, rfl, o_x1_5, b5⟩
  have s5 := b5.size
  have B5 : Below w.heap.size w W5 := B4.trans (b5.mono B4.size)
  have o_x0_5 := o_x0_4.later b5 (by omega)
  clear o_x0_4
  go_wp2_with fail
  refine (q1 W5 _ _ B5 o_x0_5.sl o_x1_5.sl).mono ?_
  rintro e W6 ⟨rfl, b6⟩
  have s6 := b6.size
  have B6 : Below w.heap.size w W6 := B5.trans (b6.mono B5.size)
  have o_x0_6 := o_x0_5.later b6 (by omega)
  have o_x1_6 := o_x1_5.later b6 (by omega)
  clear o_x0_5 o_x1_5
  go_wp2_with fail
  refine (Strs.to_s W6 _ l0 (HS0.out.later B6) (by omega)).mono ?_
  rintro e W7 ⟨t0, rfl, o_t0_7, b7⟩
  have s7 := b7.size
  have B7 : Below w.heap.size w W7 := B6.trans (b7.mono B6.size)
  have o_x0_7 := o_x0_6.later b7 (by omega)
  have o_x1_7 := o_x1_6.later b7 (by omega)
  clear o_x0_6 o_x1_6
  go_wp2_with fail
  refine (Strs.eqs_true W7 _ _ l0 o_x0_7.sl o_t0_7.sl (by omega)).mono ?_
  rintro e W8 ⟨rfl, b8, s8⟩
  have B8 : Below w.heap.size w W8 := B7.trans (b8 _)
  have o_x0_8 := o_x0_7.later (b8 _) (Nat.le_refl _)
  have o_x1_8 := o_x1_7.later (b8 _) (Nat.le_refl _)
  have o_t0_8 := o_t0_7.later (b8 _) (Nat.le_refl _)
  clear o_x0_7 o_x1_7 o_t0_7
  clear o_t0_8
  clear o_x0_8
  go_wp2_with fail
  refine (Strs.to_s W8 _ l1 (HS1.out.later B8) (by omega)).mono ?_
  rintro e W9 ⟨t1, rfl, o_t1_9, b9⟩
  have s9 := b9.size
  have B9 : Below w.heap.size w W9 := B8.trans (b9.mono B8.size)
  have o_x1_9 := o_x1_8.later b9 (by omega)
  clear o_x1_8
  go_wp2_with fail
  refine (Strs.eqs_true W9 _ _ l1 o_x1_9.sl o_t1_9.sl (by omega)).mono ?_
  rintro e W10 ⟨rfl, b10, s10⟩
  have B10 : Below w.heap.size w W10 := B9.trans (b10 _)
  have o_x1_10 := o_x1_9.later (b10 _) (Nat.le_refl _)
  have o_t1_10 := o_t1_9.later (b10 _) (Nat.le_refl _)
  clear o_x1_9 o_t1_9
  go_wp2
  go_ret
  exact ⟨rfl, B10⟩

end Go.Proofs.YtpnmhanjibhgoaaDoor.Cl
