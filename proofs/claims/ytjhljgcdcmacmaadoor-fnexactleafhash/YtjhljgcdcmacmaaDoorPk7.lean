/- Texts in one: TrX, ShaB. -/
import Derived.Test.YtjhljgcdcmacmaaDoorPk6
import Derived.Test.YtjhljgcdcmacmaaDoorPk4
/- Chapter 6: the exact laws, over contracts of the landed functions. -/
namespace Go.Proofs.YtjhljgcdcmacmaaDoor.Tr
open Go.RowKit Go.Proofs.YtjhljgcdcmacmaaDoor.Mem Go.Proofs.YtjhljgcdcmacmaaDoor.Laws Go.Proofs.YtjhljgcdcmacmaaDoor.Bytes Go.Proofs.YtjhljgcdcmacmaaDoor.Sha
set_option linter.unusedVariables false
set_option linter.unusedSimpArgs false

theorem mem_tot {l : List ByteArray} {s : ByteArray} (h : s ∈ l) : s.size ≤ Puts.tot l := by
  induction l with
  | nil => cases h
  | cons t r ih =>
    have e : Puts.tot (t :: r) = t.size + Puts.tot r := by simp [Puts.tot]
    rw [e]
    rcases List.mem_cons.1 h with rfl | h
    · omega
    · have := ih h; omega
theorem inPath_len (l : List ByteArray) (i : Int) : (inPath l i).length ≤ 1000 := by
  unfold inPath
  split
  · rename_i h
    rw [path_len]
    have := dep_le l.length i.toNat
    omega
  · simp
theorem growPath_len (l : List ByteArray) (n : Int) : (growPath l n).length ≤ 1000 := by
  unfold growPath
  split
  · rename_i h
    rw [grow_len]
    have := gdep_le l.length n.toNat true
    omega
  · simp

set_option maxRecDepth 1000000 in
set_option maxHeartbeats 1000000 in
theorem exact_leaf (w : World) (s : ByteArray) (hm : s.size ≤ maxLen)
    (iF : ∀ W, Below w.heap.size w W → s.size ≤ 1048576 → Calls Tryd.prog 16 #[.string s] W fun e w' => e = .returned (.string (leafH s)) ∧ Below W.heap.size W w') :
    Calls Tryd.prog 6 #[.string s] w fun e w' => e = .returned (.bool true) ∧ Below w.heap.size w w' := by
  unfold maxLen at hm
  by_cases hbig : 1048576 < s.size
  · have hb : (1048576 : Int) < (s.size : Int) := by omega
    clear iF
    go_enter Tryd.func6, Tryd.ntmps6
    go_wp2
    go_ret
    exact ⟨rfl, Below.refl _ _⟩
  · have hb : ¬ (1048576 : Int) < (s.size : Int) := by omega
    have q1 := leaf_spec w s (by omega)
    have q2 : ∀ W, Below w.heap.size w W → _ := fun W hW => iF W hW (by omega)
    obtain ⟨x, hx⟩ : ∃ x, leafH s = x := ⟨_, rfl⟩
    simp only [hx] at q1 q2
    clear hx iF
    go_enter Tryd.func6, Tryd.ntmps6
    go_wp2_with fail
    refine q1.mono ?_
    rintro e W1 ⟨rfl, b1⟩
    go_wp2_with fail
    refine (q2 _ b1).mono ?_
    rintro e W2 ⟨rfl, b2⟩
    have B2 : Below w.heap.size w W2 := b1.trans (b2.mono b1.size)
    go_wp2
    go_ret
    exact ⟨rfl, B2⟩

set_option maxRecDepth 1000000 in
set_option maxHeartbeats 1000000 in
theorem exact_node (w : World) (a b : ByteArray) (hm : a.size ≤ maxLen) (hm2 : b.size ≤ maxLen)
    (iF : ∀ W, Below w.heap.size w W → a.size ≤ 1048576 → b.size ≤ 1048576 → Calls Tryd.prog 17 #[.string a, .string b] W fun e w' => e = .returned (.string (nodeH a b)) ∧ Below W.heap.size W w') :
    Calls Tryd.prog 7 #[.string a, .string b] w fun e w' => e = .returned (.bool true) ∧ Below w.heap.size w w' := by
  unfold maxLen at hm hm2
  by_cases hbig : 1048576 < a.size
  · have hb : (1048576 : Int) < (a.size : Int) := by omega
    clear iF
    go_enter Tryd.func7, Tryd.ntmps7
    go_wp2
    go_ret
    exact ⟨rfl, Below.refl _ _⟩
  have hb : ¬ (1048576 : Int) < (a.size : Int) := by omega
  by_cases hbig2 : 1048576 < b.size
  · have hb2 : (1048576 : Int) < (b.size : Int) := by omega
    clear iF
    go_enter Tryd.func7, Tryd.ntmps7
    go_wp2
    go_ret
    exact ⟨rfl, Below.refl _ _⟩
  · have hb2 : ¬ (1048576 : Int) < (b.size : Int) := by omega
    have q1 := node_spec w a b (by omega) (by omega)
    have q2 : ∀ W, Below w.heap.size w W → _ := fun W hW => iF W hW (by omega) (by omega)
    obtain ⟨x, hx⟩ : ∃ x, nodeH a b = x := ⟨_, rfl⟩
    simp only [hx] at q1 q2
    clear hx iF
    go_enter Tryd.func7, Tryd.ntmps7
    go_wp2_with fail
    refine q1.mono ?_
    rintro e W1 ⟨rfl, b1⟩
    go_wp2_with fail
    refine (q2 _ b1).mono ?_
    rintro e W2 ⟨rfl, b2⟩
    have B2 : Below w.heap.size w W2 := b1.trans (b2.mono b1.size)
    go_wp2
    go_ret
    exact ⟨rfl, B2⟩

set_option maxRecDepth 1000000 in
set_option maxHeartbeats 4000000 in
theorem exact_root (w : World) (v0 : Value) (l0 : List ByteArray) (h0 : Sl w v0 (ss l0)) (y0 : ∀ s ∈ l0, s.size ≤ maxLen) (m0 : l0.length ≤ maxLen)
    (iF : ∀ W v', Below w.heap.size w W → Sl W v' (ss l0) → l0.length ≤ 1048576 → (∀ s ∈ l0, s.size ≤ 1048576) → Calls Tryd.prog 12 #[v'] W fun e w' => e = .returned (.string (rootOf l0)) ∧ Below W.heap.size W w') :
    Calls Tryd.prog 8 #[v0] w fun e w' => e = .returned (.bool true) ∧ Below w.heap.size w w' := by
  have hs := h0
  obtain ⟨ao0, cap0, rfl, -, -, -⟩ := h0
  rw [ss_len] at hs ⊢
  unfold maxLen at m0 y0
  have hsz := Strs.sz_any w _ l0 1048576 hs y0 m0 (by omega)
  go_enter Tryd.func8, Tryd.ntmps8
  go_wp2_with fail
  refine hsz.mono ?_
  rintro e WX ⟨⟨r, rfl, hr⟩, hWX⟩
  subst hWX
  clear hsz
  rcases hr with hr | ⟨hfit, hr⟩
  · go_wp2
    go_ret
    exact ⟨rfl, Below.refl _ _⟩
  have hl : l0.length ≤ 1048576 := by omega
  have hz : ∀ s ∈ l0, s.size ≤ 1048576 := fun s hs => by have := mem_tot hs; omega
  have q1 : ∀ W v', Below w.heap.size w W → Sl W v' (ss l0) → _ := fun W v' hW hv => iF W v' hW hv hl hz
  have q2 : ∀ W v', Sl W v' (ss l0) → _ := fun W v' hv => rootOf_spec W v' l0 hv (by omega) (fun s hs => by have := hz s hs; omega)
  obtain ⟨R, hR⟩ : ∃ R, rootOf l0 = R := ⟨_, rfl⟩
  simp only [hR] at q1 q2
  clear hR hz iF hfit y0
  have B0 : Below w.heap.size w w := Below.refl _ _
  go_wp2_with fail
  refine (Strs.to_s w _ l0 (hs.later B0) (by omega)).mono ?_
  rintro e W1 ⟨v1, rfl, o_v1_1, b1⟩
  have s1 := b1.size
  have B1 : Below w.heap.size w W1 := B0.trans (b1.mono B0.size)
  go_wp2_with fail
  refine (q2 W1 _ o_v1_1.sl).mono ?_
  rintro e W2 ⟨rfl, b2⟩
  have s2 := b2.size
  have B2 : Below w.heap.size w W2 := B1.trans (b2.mono B1.size)
  have o_v1_2 := o_v1_1.later b2 (by omega)
  clear o_v1_1
  clear o_v1_2
  go_wp2_with fail
  refine (Strs.to_s W2 _ l0 (hs.later B2) (by omega)).mono ?_
  rintro e W3 ⟨x0, rfl, o_x0_3, b3⟩
  have s3 := b3.size
  have B3 : Below w.heap.size w W3 := B2.trans (b3.mono B2.size)
  go_wp2_with fail
  refine (q1 W3 _ B3 o_x0_3.sl).mono ?_
  rintro e W4 ⟨rfl, b4⟩
  have s4 := b4.size
  have B4 : Below w.heap.size w W4 := B3.trans (b4.mono B3.size)
  have o_x0_4 := o_x0_3.later b4 (by omega)
  clear o_x0_3
  go_wp2_with fail
  refine (Strs.to_s W4 _ l0 (hs.later B4) (by omega)).mono ?_
  rintro e W5 ⟨t0, rfl, o_t0_5, b5⟩
  have s5 := b5.size
  have B5 : Below w.heap.size w W5 := B4.trans (b5.mono B4.size)
  have o_x0_5 := o_x0_4.later b5 (by omega)
  clear o_x0_4
  go_wp2_with fail
  refine (Strs.eqs_true W5 _ _ l0 o_x0_5.sl o_t0_5.sl (by omega)).mono ?_
  rintro e W6 ⟨rfl, b6, s6⟩
  have B6 : Below w.heap.size w W6 := B5.trans (b6 _)
  have o_x0_6 := o_x0_5.later (b6 _) (Nat.le_refl _)
  have o_t0_6 := o_t0_5.later (b6 _) (Nat.le_refl _)
  clear o_x0_5 o_t0_5
  clear o_t0_6
  go_wp2
  go_ret
  exact ⟨rfl, B6⟩

end Go.Proofs.YtjhljgcdcmacmaaDoor.Tr

/- Contracts of the program's turns of words, as plain functions of natural numbers. -/
namespace Go.Proofs.YtjhljgcdcmacmaaDoor.Sha
open Go.RowKit Go.Proofs.YtjhljgcdcmacmaaDoor.Mem Go.Proofs.YtjhljgcdcmacmaaDoor.Laws Go.Proofs.YtjhljgcdcmacmaaDoor.Bytes
set_option linter.unusedVariables false
set_option linter.unusedSimpArgs false

theorem wraps32 (n : Int) (h0 : 0 ≤ n) (h1 : n < 2 ^ 32) : IntKind.u32.wrap n = n := by rw [IntKind.wrap_u32]; omega
theorem wrap32 (n : Nat) : IntKind.u32.wrap (n : Int) = ((n % 4294967296 : Nat) : Int) := by rw [IntKind.wrap_u32]; omega

theorem or32 {a b : Nat} (ha : a < 4294967296) (hb : b < 4294967296) : bits .or .u32 (a : Int) (b : Int) = ((a ||| b : Nat) : Int) := (bits_nat .u32 32 (by decide) wraps32 a b ha hb).2
theorem and32 {a b : Nat} (ha : a < 4294967296) (hb : b < 4294967296) : bits .and .u32 (a : Int) (b : Int) = ((a &&& b : Nat) : Int) := (bits_nat .u32 32 (by decide) wraps32 a b ha hb).1
theorem xor32 {a b : Nat} (ha : a < 4294967296) (hb : b < 4294967296) : bits .xor .u32 (a : Int) (b : Int) = ((a ^^^ b : Nat) : Int) := by
  have ha' : a % 2 ^ 32 = a := Nat.mod_eq_of_lt (by omega)
  have hb' : b % 2 ^ 32 = b := Nat.mod_eq_of_lt (by omega)
  have e : bits .xor .u32 (a : Int) (b : Int) = IntKind.u32.wrap (((BitVec.ofInt 32 (a : Int) ^^^ BitVec.ofInt 32 (b : Int)).toNat : Nat) : Int) := rfl
  rw [e, BitVec.ofInt_natCast, BitVec.ofInt_natCast, BitVec.toNat_xor, BitVec.toNat_ofNat, BitVec.toNat_ofNat, ha', hb']
  exact wraps32 _ (Int.natCast_nonneg _) (by have := Nat.xor_lt_two_pow (n := 32) ha hb; omega)

theorem turn_split (x n : Nat) (hx : x < 4294967296) : turn x n = (x * 2 ^ (32 - n) % 4294967296 ||| x / 2 ^ n) := by
  unfold turn
  have hd : x / 2 ^ n < 2 ^ 32 := Nat.lt_of_le_of_lt (Nat.div_le_self _ _) hx
  rw [show (4294967296 : Nat) = 2 ^ 32 by decide, Nat.or_mod_two_pow, Nat.mod_eq_of_lt hd, Nat.or_comm]

set_option maxRecDepth 1000000 in
set_option maxHeartbeats 400000 in
theorem rot_impl (w : World) (x n : Nat) (k : Int) (hk : bits .and .u64 (IntKind.u64.wrap k) 31 = ((32 - n : Nat) : Int)) (hx : x < 4294967296) (hn1 : 1 ≤ n) (hn2 : n ≤ 31) :
    Calls Tryd.prog 63 #[.int .u32 (x : Int), .int .i64 k] w fun e w' => e = .returned (.int .u32 (turn x n : Nat)) ∧ w = w' := by
  go_enter Tryd.func63, Tryd.ntmps63
  go_wp2
  go_ret
  refine ⟨congrArg (fun z => Ending.returned (.int .u32 z)) ?_, rfl⟩
  have e1 : (x : Int) * 2 ^ (32 - n) % 4294967296 = ((x * 2 ^ (32 - n) % 4294967296 : Nat) : Int) := by rw [Int.natCast_emod, Int.natCast_mul, Int.natCast_pow]; rfl
  have e2 : (x : Int) / 2 ^ (32 - (32 - n)) = ((x / 2 ^ n : Nat) : Int) := by rw [show 32 - (32 - n) = n by omega, Int.natCast_ediv, Int.natCast_pow]; rfl
  have hd : x / 2 ^ n < 4294967296 := Nat.lt_of_le_of_lt (Nat.div_le_self _ _) hx
  show bits .or .u32 ((x : Int) * 2 ^ (32 - n) % 4294967296) ((x : Int) / 2 ^ (32 - (32 - n))) = _
  rw [e1, e2, or32 (Nat.mod_lt _ (by decide)) hd, turn_split x n hx]

set_option maxRecDepth 1000000 in
set_option maxHeartbeats 400000 in
theorem turn_impl (w : World) (x n : Nat) (k : Int) (hkn : k = (n : Int)) (hk : bits .and .u64 (IntKind.u64.wrap (-k)) 31 = ((32 - n : Nat) : Int)) (hx : x < 4294967296) (hn1 : 1 ≤ n) (hn2 : n ≤ 31) :
    Calls Tryd.prog 62 #[.int .u32 (x : Int), .int .i64 k] w fun e w' => e = .returned (.int .u32 (turn x n : Nat)) ∧ w = w' := by
  have hk0 : 0 ≤ k := by omega
  have hk1 : k ≤ 31 := by omega
  have hr := rot_impl w x n (-k) hk hx hn1 hn2
  have hw : IntKind.i64.wrap (-k) = -k := by rw [IntKind.wrap_i64]; omega
  clear hk hkn
  go_enter Tryd.func62, Tryd.ntmps62
  go_wp2_with fail
  refine hr.mono ?_
  rintro e w' ⟨rfl, rfl⟩
  go_wp2
  go_ret
  exact ⟨rfl, rfl⟩

set_option maxRecDepth 1000000 in
set_option maxHeartbeats 400000 in
theorem s0_impl (w : World) (x : Nat) (hx : x < 4294967296) : Calls Tryd.prog 60 #[.int .u32 (x : Int)] w fun e w' => e = .returned (.int .u32 (s0w x : Nat)) ∧ w = w' := by
  have q1 := turn_impl w x 7 7 rfl (by decide) hx (by omega) (by omega)
  have q2 := turn_impl w x 18 18 rfl (by decide) hx (by omega) (by omega)
  have HB : Hid (bits .xor .u32 (bits .xor .u32 ((turn x 7 : Nat) : Int) ((turn x 18 : Nat) : Int)) ((x : Int) / 8) = ((s0w x : Nat) : Int)) := by
    show _ = _
    have e : (x : Int) / 8 = ((x / 8 : Nat) : Int) := by omega
    rw [e, xor32 (turn_lt _ _) (turn_lt _ _), xor32 (xl (turn_lt _ _) (turn_lt _ _)) (by omega)]; rfl
  go_enter Tryd.func60, Tryd.ntmps60
  go_wp2_with fail
  refine q1.mono ?_
  rintro e w' ⟨rfl, rfl⟩
  go_wp2_with fail
  refine q2.mono ?_
  rintro e w' ⟨rfl, rfl⟩
  go_wp2
  go_ret
  exact ⟨congrArg (fun z => Ending.returned (.int .u32 z)) HB.out, rfl⟩

set_option maxRecDepth 1000000 in
set_option maxHeartbeats 400000 in
theorem s1_impl (w : World) (x : Nat) (hx : x < 4294967296) : Calls Tryd.prog 61 #[.int .u32 (x : Int)] w fun e w' => e = .returned (.int .u32 (s1w x : Nat)) ∧ w = w' := by
  have q1 := turn_impl w x 17 17 rfl (by decide) hx (by omega) (by omega)
  have q2 := turn_impl w x 19 19 rfl (by decide) hx (by omega) (by omega)
  have HB : Hid (bits .xor .u32 (bits .xor .u32 ((turn x 17 : Nat) : Int) ((turn x 19 : Nat) : Int)) ((x : Int) / 1024) = ((s1w x : Nat) : Int)) := by
    show _ = _
    have e : (x : Int) / 1024 = ((x / 1024 : Nat) : Int) := by omega
    rw [e, xor32 (turn_lt _ _) (turn_lt _ _), xor32 (xl (turn_lt _ _) (turn_lt _ _)) (by omega)]; rfl
  go_enter Tryd.func61, Tryd.ntmps61
  go_wp2_with fail
  refine q1.mono ?_
  rintro e w' ⟨rfl, rfl⟩
  go_wp2_with fail
  refine q2.mono ?_
  rintro e w' ⟨rfl, rfl⟩
  go_wp2
  go_ret
  exact ⟨congrArg (fun z => Ending.returned (.int .u32 z)) HB.out, rfl⟩

set_option maxRecDepth 1000000 in
set_option maxHeartbeats 400000 in
theorem b0_impl (w : World) (x : Nat) (hx : x < 4294967296) : Calls Tryd.prog 54 #[.int .u32 (x : Int)] w fun e w' => e = .returned (.int .u32 (big0 x : Nat)) ∧ w = w' := by
  have q1 := turn_impl w x 2 2 rfl (by decide) hx (by omega) (by omega)
  have q2 := turn_impl w x 13 13 rfl (by decide) hx (by omega) (by omega)
  have q3 := turn_impl w x 22 22 rfl (by decide) hx (by omega) (by omega)
  have HB : Hid (bits .xor .u32 (bits .xor .u32 ((turn x 2 : Nat) : Int) ((turn x 13 : Nat) : Int)) ((turn x 22 : Nat) : Int) = ((big0 x : Nat) : Int)) := by
    show _ = _
    rw [xor32 (turn_lt _ _) (turn_lt _ _), xor32 (xl (turn_lt _ _) (turn_lt _ _)) (turn_lt _ _)]; rfl
  go_enter Tryd.func54, Tryd.ntmps54
  go_wp2_with fail
  refine q1.mono ?_
  rintro e w' ⟨rfl, rfl⟩
  go_wp2_with fail
  refine q2.mono ?_
  rintro e w' ⟨rfl, rfl⟩
  go_wp2_with fail
  refine q3.mono ?_
  rintro e w' ⟨rfl, rfl⟩
  go_wp2
  go_ret
  exact ⟨congrArg (fun z => Ending.returned (.int .u32 z)) HB.out, rfl⟩

set_option maxRecDepth 1000000 in
set_option maxHeartbeats 400000 in
theorem b1_impl (w : World) (x : Nat) (hx : x < 4294967296) : Calls Tryd.prog 52 #[.int .u32 (x : Int)] w fun e w' => e = .returned (.int .u32 (big1 x : Nat)) ∧ w = w' := by
  have q1 := turn_impl w x 6 6 rfl (by decide) hx (by omega) (by omega)
  have q2 := turn_impl w x 11 11 rfl (by decide) hx (by omega) (by omega)
  have q3 := turn_impl w x 25 25 rfl (by decide) hx (by omega) (by omega)
  have HB : Hid (bits .xor .u32 (bits .xor .u32 ((turn x 6 : Nat) : Int) ((turn x 11 : Nat) : Int)) ((turn x 25 : Nat) : Int) = ((big1 x : Nat) : Int)) := by
    show _ = _
    rw [xor32 (turn_lt _ _) (turn_lt _ _), xor32 (xl (turn_lt _ _) (turn_lt _ _)) (turn_lt _ _)]; rfl
  go_enter Tryd.func52, Tryd.ntmps52
  go_wp2_with fail
  refine q1.mono ?_
  rintro e w' ⟨rfl, rfl⟩
  go_wp2_with fail
  refine q2.mono ?_
  rintro e w' ⟨rfl, rfl⟩
  go_wp2_with fail
  refine q3.mono ?_
  rintro e w' ⟨rfl, rfl⟩
  go_wp2
  go_ret
  exact ⟨congrArg (fun z => Ending.returned (.int .u32 z)) HB.out, rfl⟩

set_option maxRecDepth 1000000 in
set_option maxHeartbeats 400000 in
theorem ch_impl (w : World) (e f g : Nat) (he : e < 4294967296) (hf : f < 4294967296) (hg : g < 4294967296) : Calls Tryd.prog 53 #[.int .u32 (e : Int), .int .u32 (f : Int), .int .u32 (g : Int)] w fun e' w' => e' = .returned (.int .u32 (ch e f g : Nat)) ∧ w = w' := by
  have HB : Hid (bits .xor .u32 (bits .and .u32 (e : Int) (f : Int)) (bits .and .u32 (bits .xor .u32 4294967295 (e : Int)) (g : Int)) = ((ch e f g : Nat) : Int)) := by
    show _ = _
    have e0 : (4294967295 : Int) = ((4294967295 : Nat) : Int) := rfl
    rw [e0, xor32 (by omega) he, and32 he hf, and32 (xl (by omega) he) hg, xor32 (al hf) (al hg)]; rfl
  go_enter Tryd.func53, Tryd.ntmps53
  go_wp2
  go_ret
  exact ⟨congrArg (fun z => Ending.returned (.int .u32 z)) HB.out, rfl⟩

set_option maxRecDepth 1000000 in
set_option maxHeartbeats 400000 in
theorem maj_impl (w : World) (a b c : Nat) (ha : a < 4294967296) (hb : b < 4294967296) (hc : c < 4294967296) : Calls Tryd.prog 55 #[.int .u32 (a : Int), .int .u32 (b : Int), .int .u32 (c : Int)] w fun e' w' => e' = .returned (.int .u32 (maj a b c : Nat)) ∧ w = w' := by
  have HB : Hid (bits .xor .u32 (bits .xor .u32 (bits .and .u32 (a : Int) (b : Int)) (bits .and .u32 (a : Int) (c : Int))) (bits .and .u32 (b : Int) (c : Int)) = ((maj a b c : Nat) : Int)) := by
    show _ = _
    rw [and32 ha hb, and32 ha hc, and32 hb hc, xor32 (al hb) (al hc), xor32 (xl (al hb) (al hc)) (al hc)]; rfl
  go_enter Tryd.func55, Tryd.ntmps55
  go_wp2
  go_ret
  exact ⟨congrArg (fun z => Ending.returned (.int .u32 z)) HB.out, rfl⟩

end Go.Proofs.YtjhljgcdcmacmaaDoor.Sha
