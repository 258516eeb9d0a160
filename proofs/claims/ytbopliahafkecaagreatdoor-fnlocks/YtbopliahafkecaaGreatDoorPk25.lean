/- Texts in one: LmX, Lm1, LmA. -/
import Derived.Test.YtbopliahafkecaaGreatDoorPk24
import Derived.Test.YtbopliahafkecaaGreatDoorPk21
import Derived.Test.YtbopliahafkecaaGreatDoorPk13
import Derived.Test.YtbopliahafkecaaGreatDoorPk20
import Derived.Test.YtbopliahafkecaaGreatDoorPk6
/- Chapter 17: the exact law of ParseLock, over a contract of the landed function. -/
namespace Go.Proofs.YtbopliahafkecaaGreatDoor.Lm
open Go.RowKit Go.Proofs.YtbopliahafkecaaGreatDoor.Mem Go.Proofs.YtbopliahafkecaaGreatDoor.Laws Go.Proofs.YtbopliahafkecaaGreatDoor.Bytes Go.Proofs.YtbopliahafkecaaGreatDoor.Sha Go.Proofs.YtbopliahafkecaaGreatDoor.Ver Go.Proofs.YtbopliahafkecaaGreatDoor.Mod Go.Proofs.YtbopliahafkecaaGreatDoor.Ent Go.Proofs.YtbopliahafkecaaGreatDoor.He Go.Proofs.YtbopliahafkecaaGreatDoor.Lk
set_option linter.unusedVariables false
set_option linter.unusedSimpArgs false

theorem Odk.later {w w' : World} {lo hi B : Nat} {v : Value} {l : List Nd} (h : Od w lo hi v l) (b : Below B w w') (hB : hi ≤ B) : Od w' lo hi v l := On.later h b hB
theorem Odk.apart {w w' : World} {lo hi l2 h2 : Nat} {v : Value} {l : List Nd} (h : Od w lo hi v l) (a : Apart l2 h2 w w') (hd : hi ≤ l2 ∨ h2 ≤ lo) (hs : hi ≤ w.heap.size) : Od w' lo hi v l := On.apart h a hd hs
theorem parse_len {s : ByteArray} {h : Hd} {l : List Nd} {b : Bool} (hp : parse s = (h, l, b)) : l.length ≤ 60 := by
  cases b with
  | true =>
    obtain ⟨h1, h2⟩ := (parse_iff s h l).1 hp
    exact (lockOk_parts (lock_ok h1 h2)).2.1
  | false =>
    have h3 := parse_no (s := s) (by rw [hp])
    rw [hp] at h3
    unfold none17 at h3
    simp only [Prod.mk.injEq] at h3
    rw [h3.2.1]
    exact Nat.zero_le _

set_option maxRecDepth 1000000 in
set_option maxHeartbeats 4000000 in
theorem exact_parse (w : World) (s : ByteArray) (m0 : s.size ≤ maxLen)
    (iP : ∀ W, Below w.heap.size w W → s.size ≤ 1048576 → Calls Tryz.prog 9 #[.string s] W fun e w' => ∃ v', e = .returned (.tuple #[.agg #[.int .i64 (parse s).1.n, .string (parse s).1.r], v', .bool (parse s).2.2]) ∧ Od w' W.heap.size w'.heap.size v' (parse s).2.1 ∧ Below W.heap.size W w') :
    Calls Tryz.prog 4 #[.string s] w fun e w' => e = .returned (.bool true) ∧ Below w.heap.size w w' := by
  unfold maxLen at m0
  by_cases hbig : 1048576 < s.size
  · have hb : (1048576 : Int) < (s.size : Int) := by omega
    clear hbig iP
    go_enter Tryz.func4, Tryz.ntmps4
    go_wp2
    go_ret
    exact ⟨rfl, Below.refl _ _⟩
  have hb : ¬ (1048576 : Int) < (s.size : Int) := by omega
  have hs : s.size ≤ 1048576 := by omega
  obtain ⟨⟨N, rt⟩, R, ok, hP⟩ : ∃ h l b, parse s = (h, l, b) := ⟨_, _, _, rfl⟩
  have hR := parse_len hP
  have q0 := parse_spec w s hs
  have q1 : ∀ W, Below w.heap.size w W → _ := fun W hW => iP W hW hs
  simp only [hP] at q0 q1
  have qh : ∀ W, _ := fun W => eq_head W ⟨N, rt⟩
  simp only at qh
  have nc : (ok != ok) = false := by simp
  clear hP iP hbig
  go_enter Tryz.func4, Tryz.ntmps4
  go_wp2_with fail
  refine (q0).mono ?_
  rintro e W1 ⟨v1, rfl, o1, b1⟩
  have z1 := b1.size
  have B1 : Hid (Below w.heap.size w W1) := b1
  clear b1 
  have D1_1 : Hid (Od W1 w.heap.size W1.heap.size v1 R) := o1
  clear o1 q0
  obtain ⟨W2, HW2, b2, y2, hS2, a_2⟩ := Ke.l1 W1 #[.int .i64 N, .string rt] 25
  have z2 := b2.size
  have B2 : Hid (Below w.heap.size w W2) := B1.out.trans (b2.mono B1.out.size)
  have D1_2 : Hid (Od W2 w.heap.size W1.heap.size v1 R) := Odk.later D1_1.out b2 (by omega)
  clear b2 D1_1 B1
  have c_a_2 := Ke.c a_2
  go_wp2_with fail
  rw [HW2.out]
  refine (q1 W2 B2.out).mono ?_
  rintro e W3 ⟨v3, rfl, o3, b3⟩
  have z3 := b3.size
  have B3 : Hid (Below w.heap.size w W3) := B2.out.trans (b3.mono B2.out.size)
  have D1_3 : Hid (Od W3 w.heap.size W1.heap.size v1 R) := Odk.later D1_2.out b3 (by omega)
  have a_3 : Hid (W3.heap[W1.heap.size]? = some (.cells #[.int .i64 N, .string rt] 25 (0, 0))) := rowKeep a_2.out b3
  have c_a_3 := Ke.c a_3
  clear b3 D1_2 a_2 c_a_2 B2
  have D3_3 : Hid (Od W3 W2.heap.size W3.heap.size v3 R) := o3
  clear o3
  clear HW2 hS2
  obtain ⟨W4, HW4, b4, y4, hS4, g_4⟩ := Ke.l1 W3 #[.int .i64 N, .string rt] 25
  have z4 := b4.size
  have B4 : Hid (Below w.heap.size w W4) := B3.out.trans (b4.mono B3.out.size)
  have D1_4 : Hid (Od W4 w.heap.size W1.heap.size v1 R) := Odk.later D1_3.out b4 (by omega)
  have D3_4 : Hid (Od W4 W2.heap.size W3.heap.size v3 R) := Odk.later D3_3.out b4 (by omega)
  have a_4 : Hid (W4.heap[W1.heap.size]? = some (.cells #[.int .i64 N, .string rt] 25 (0, 0))) := rowKeep a_3.out b4
  have c_a_4 := Ke.c a_4
  clear b4 D1_3 D3_3 a_3 c_a_3 B3
  have c_g_4 := Ke.c g_4
  have d_a := c_a_4
  rw [← HW4.out] at d_a
  have d_g := c_g_4
  rw [← HW4.out] at d_g
  go_wp2_with fail
  rw [HW4.out]
  refine (qh W4).mono ?_
  rintro e W5 ⟨rfl, b5⟩
  have z5 := b5.size
  have B5 : Hid (Below w.heap.size w W5) := B4.out.trans (b5.mono B4.out.size)
  have D1_5 : Hid (Od W5 w.heap.size W1.heap.size v1 R) := Odk.later D1_4.out b5 (by omega)
  have D3_5 : Hid (Od W5 W2.heap.size W3.heap.size v3 R) := Odk.later D3_4.out b5 (by omega)
  have a_5 : Hid (W5.heap[W1.heap.size]? = some (.cells #[.int .i64 N, .string rt] 25 (0, 0))) := rowKeep a_4.out b5
  have c_a_5 := Ke.c a_5
  have g_5 : Hid (W5.heap[W3.heap.size]? = some (.cells #[.int .i64 N, .string rt] 25 (0, 0))) := rowKeep g_4.out b5
  have c_g_5 := Ke.c g_5
  clear b5 D1_4 D3_4 a_4 c_a_4 g_4 c_g_4 B4
  clear d_a d_g HW4 hS4
  go_wp2_with fail
  refine (eq_needs W5 v3 v1 R D3_5.out.sd D1_5.out.sd (by omega)).mono ?_
  rintro e W6 ⟨rfl, b6⟩
  have z6 := b6.size
  have B6 : Hid (Below w.heap.size w W6) := B5.out.trans (b6.mono B5.out.size)
  have D1_6 : Hid (Od W6 w.heap.size W1.heap.size v1 R) := Odk.later D1_5.out b6 (by omega)
  have D3_6 : Hid (Od W6 W2.heap.size W3.heap.size v3 R) := Odk.later D3_5.out b6 (by omega)
  have a_6 : Hid (W6.heap[W1.heap.size]? = some (.cells #[.int .i64 N, .string rt] 25 (0, 0))) := rowKeep a_5.out b6
  have c_a_6 := Ke.c a_6
  have g_6 : Hid (W6.heap[W3.heap.size]? = some (.cells #[.int .i64 N, .string rt] 25 (0, 0))) := rowKeep g_5.out b6
  have c_g_6 := Ke.c g_6
  clear b6 D1_5 D3_5 a_5 c_a_5 g_5 c_g_5 B5
  obtain ⟨C, hC⟩ : ∃ C, R.length = C := ⟨_, rfl⟩
  obtain ⟨M, hM, hM0⟩ : ∃ M : Int, ((1 + 5 * C : Nat) : Int) = M ∧ ¬ M < 0 := ⟨_, rfl, by omega⟩
  have n1 : (M != M) = false := by simp
  have q8 := mark_needs W6 v3 _ _ R 1 D3_6.out (by omega) (by omega) (by omega) (by omega)
  rw [hC, hM] at q8
  have HM : Hid (((1 + 5 * C : Nat) : Int) = M) := hM
  clear hM
  go_wp2_with fail
  refine (q8).mono ?_
  rintro e W7 ⟨rfl, om, b7⟩
  have z7 := b7.size
  have B7 : Hid (Below w.heap.size w W7) := B6.out.trans (b7.below (by omega) (B6.out.size))
  have D1_7 : Hid (Od W7 w.heap.size W1.heap.size v1 R) := Odk.apart D1_6.out b7 (by omega) (by omega)
  have a_7 : Hid (W7.heap[W1.heap.size]? = some (.cells #[.int .i64 N, .string rt] 25 (0, 0))) := (b7.block (W1.heap.size) (by omega) (by omega)).trans a_6.out
  have c_a_7 := Ke.c a_7
  have g_7 : Hid (W7.heap[W3.heap.size]? = some (.cells #[.int .i64 N, .string rt] 25 (0, 0))) := (b7.block (W3.heap.size) (by omega) (by omega)).trans g_6.out
  have c_g_7 := Ke.c g_7
  clear b7 D1_6 D3_6 a_6 c_a_6 g_6 c_g_6 B6
  have Dm_7 : Hid (Od W7 W2.heap.size W3.heap.size v3 (mds 1 C)) := om
  clear om q8
  have q9 := held_needs W7 v3 C 1 Dm_7.out.sd (by omega) (by omega) (by omega)
  rw [HM.out] at q9
  go_wp2_with fail
  refine (q9).mono ?_
  rintro e W8 ⟨rfl, b8⟩
  have z8 := b8.size
  have B8 : Hid (Below w.heap.size w W8) := B7.out.trans (b8.mono B7.out.size)
  have D1_8 : Hid (Od W8 w.heap.size W1.heap.size v1 R) := Odk.later D1_7.out b8 (by omega)
  have Dm_8 : Hid (Od W8 W2.heap.size W3.heap.size v3 (mds 1 C)) := Odk.later Dm_7.out b8 (by omega)
  have a_8 : Hid (W8.heap[W1.heap.size]? = some (.cells #[.int .i64 N, .string rt] 25 (0, 0))) := rowKeep a_7.out b8
  have c_a_8 := Ke.c a_8
  have g_8 : Hid (W8.heap[W3.heap.size]? = some (.cells #[.int .i64 N, .string rt] 25 (0, 0))) := rowKeep g_7.out b8
  have c_g_8 := Ke.c g_8
  clear b8 D1_7 Dm_7 a_7 c_a_7 g_7 c_g_7 B7
  clear q9
  go_wp2_with fail
  refine (q1 W8 B8.out).mono ?_
  rintro e W9 ⟨v9, rfl, o9, b9⟩
  have z9 := b9.size
  have B9 : Hid (Below w.heap.size w W9) := B8.out.trans (b9.mono B8.out.size)
  have D1_9 : Hid (Od W9 w.heap.size W1.heap.size v1 R) := Odk.later D1_8.out b9 (by omega)
  have Dm_9 : Hid (Od W9 W2.heap.size W3.heap.size v3 (mds 1 C)) := Odk.later Dm_8.out b9 (by omega)
  have a_9 : Hid (W9.heap[W1.heap.size]? = some (.cells #[.int .i64 N, .string rt] 25 (0, 0))) := rowKeep a_8.out b9
  have c_a_9 := Ke.c a_9
  have g_9 : Hid (W9.heap[W3.heap.size]? = some (.cells #[.int .i64 N, .string rt] 25 (0, 0))) := rowKeep g_8.out b9
  have c_g_9 := Ke.c g_9
  clear b9 D1_8 Dm_8 a_8 c_a_8 g_8 c_g_8 B8
  have D9_9 : Hid (Od W9 W8.heap.size W9.heap.size v9 R) := o9
  clear o9
  obtain ⟨W10, HW10, b10, y10, hS10, h_10⟩ := Ke.l1 W9 #[.int .i64 N, .string rt] 25
  have z10 := b10.size
  have B10 : Hid (Below w.heap.size w W10) := B9.out.trans (b10.mono B9.out.size)
  have D1_10 : Hid (Od W10 w.heap.size W1.heap.size v1 R) := Odk.later D1_9.out b10 (by omega)
  have Dm_10 : Hid (Od W10 W2.heap.size W3.heap.size v3 (mds 1 C)) := Odk.later Dm_9.out b10 (by omega)
  have D9_10 : Hid (Od W10 W8.heap.size W9.heap.size v9 R) := Odk.later D9_9.out b10 (by omega)
  have a_10 : Hid (W10.heap[W1.heap.size]? = some (.cells #[.int .i64 N, .string rt] 25 (0, 0))) := rowKeep a_9.out b10
  have c_a_10 := Ke.c a_10
  have g_10 : Hid (W10.heap[W3.heap.size]? = some (.cells #[.int .i64 N, .string rt] 25 (0, 0))) := rowKeep g_9.out b10
  have c_g_10 := Ke.c g_10
  clear b10 D1_9 Dm_9 D9_9 a_9 c_a_9 g_9 c_g_9 B9
  have c_h_10 := Ke.c h_10
  have d_a := c_a_10
  rw [← HW10.out] at d_a
  have d_g := c_g_10
  rw [← HW10.out] at d_g
  have d_h := c_h_10
  rw [← HW10.out] at d_h
  go_wp2_with fail
  rw [HW10.out]
  refine (qh W10).mono ?_
  rintro e W11 ⟨rfl, b11⟩
  have z11 := b11.size
  have B11 : Hid (Below w.heap.size w W11) := B10.out.trans (b11.mono B10.out.size)
  have D1_11 : Hid (Od W11 w.heap.size W1.heap.size v1 R) := Odk.later D1_10.out b11 (by omega)
  have Dm_11 : Hid (Od W11 W2.heap.size W3.heap.size v3 (mds 1 C)) := Odk.later Dm_10.out b11 (by omega)
  have D9_11 : Hid (Od W11 W8.heap.size W9.heap.size v9 R) := Odk.later D9_10.out b11 (by omega)
  have a_11 : Hid (W11.heap[W1.heap.size]? = some (.cells #[.int .i64 N, .string rt] 25 (0, 0))) := rowKeep a_10.out b11
  have c_a_11 := Ke.c a_11
  have g_11 : Hid (W11.heap[W3.heap.size]? = some (.cells #[.int .i64 N, .string rt] 25 (0, 0))) := rowKeep g_10.out b11
  have c_g_11 := Ke.c g_11
  have h_11 : Hid (W11.heap[W9.heap.size]? = some (.cells #[.int .i64 N, .string rt] 25 (0, 0))) := rowKeep h_10.out b11
  have c_h_11 := Ke.c h_11
  clear b11 D1_10 Dm_10 D9_10 a_10 c_a_10 g_10 c_g_10 h_10 c_h_10 B10
  clear d_a d_g d_h HW10 hS10
  go_wp2_with fail
  refine (eq_needs W11 v9 v1 R D9_11.out.sd D1_11.out.sd (by omega)).mono ?_
  rintro e W12 ⟨rfl, b12⟩
  have z12 := b12.size
  have B12 : Hid (Below w.heap.size w W12) := B11.out.trans (b12.mono B11.out.size)
  have D1_12 : Hid (Od W12 w.heap.size W1.heap.size v1 R) := Odk.later D1_11.out b12 (by omega)
  have Dm_12 : Hid (Od W12 W2.heap.size W3.heap.size v3 (mds 1 C)) := Odk.later Dm_11.out b12 (by omega)
  have D9_12 : Hid (Od W12 W8.heap.size W9.heap.size v9 R) := Odk.later D9_11.out b12 (by omega)
  have a_12 : Hid (W12.heap[W1.heap.size]? = some (.cells #[.int .i64 N, .string rt] 25 (0, 0))) := rowKeep a_11.out b12
  have c_a_12 := Ke.c a_12
  have g_12 : Hid (W12.heap[W3.heap.size]? = some (.cells #[.int .i64 N, .string rt] 25 (0, 0))) := rowKeep g_11.out b12
  have c_g_12 := Ke.c g_12
  have h_12 : Hid (W12.heap[W9.heap.size]? = some (.cells #[.int .i64 N, .string rt] 25 (0, 0))) := rowKeep h_11.out b12
  have c_h_12 := Ke.c h_12
  clear b12 D1_11 Dm_11 D9_11 a_11 c_a_11 g_11 c_g_11 h_11 c_h_11 B11
  have q10 := held_needs W12 v3 C 1 Dm_12.out.sd (by omega) (by omega) (by omega)
  rw [HM.out] at q10
  go_wp2_with fail
  refine (q10).mono ?_
  rintro e W13 ⟨rfl, b13⟩
  have z13 := b13.size
  have B13 : Hid (Below w.heap.size w W13) := B12.out.trans (b13.mono B12.out.size)
  have D1_13 : Hid (Od W13 w.heap.size W1.heap.size v1 R) := Odk.later D1_12.out b13 (by omega)
  have Dm_13 : Hid (Od W13 W2.heap.size W3.heap.size v3 (mds 1 C)) := Odk.later Dm_12.out b13 (by omega)
  have D9_13 : Hid (Od W13 W8.heap.size W9.heap.size v9 R) := Odk.later D9_12.out b13 (by omega)
  have a_13 : Hid (W13.heap[W1.heap.size]? = some (.cells #[.int .i64 N, .string rt] 25 (0, 0))) := rowKeep a_12.out b13
  have c_a_13 := Ke.c a_13
  have g_13 : Hid (W13.heap[W3.heap.size]? = some (.cells #[.int .i64 N, .string rt] 25 (0, 0))) := rowKeep g_12.out b13
  have c_g_13 := Ke.c g_13
  have h_13 : Hid (W13.heap[W9.heap.size]? = some (.cells #[.int .i64 N, .string rt] 25 (0, 0))) := rowKeep h_12.out b13
  have c_h_13 := Ke.c h_13
  clear b13 D1_12 Dm_12 D9_12 a_12 c_a_12 g_12 c_g_12 h_12 c_h_12 B12
  clear q10
  go_wp2
  go_ret
  exact ⟨rfl, B13.out⟩

end Go.Proofs.YtbopliahafkecaaGreatDoor.Lm

/- Chapter 17, the landed code: a text's lines, and a lock read by them; plain facts. -/
namespace Go.Proofs.YtbopliahafkecaaGreatDoor.Lm
open Go.RowKit Go.Proofs.YtbopliahafkecaaGreatDoor.Mem Go.Proofs.YtbopliahafkecaaGreatDoor.Laws Go.Proofs.YtbopliahafkecaaGreatDoor.Bytes Go.Proofs.YtbopliahafkecaaGreatDoor.Sha Go.Proofs.YtbopliahafkecaaGreatDoor.Ver Go.Proofs.YtbopliahafkecaaGreatDoor.Mod Go.Proofs.YtbopliahafkecaaGreatDoor.Ent Go.Proofs.YtbopliahafkecaaGreatDoor.He Go.Proofs.YtbopliahafkecaaGreatDoor.Lk
set_option linter.unusedVariables false
set_option linter.unusedSimpArgs false

/-- the place of the first b, or -1; what stands before it and behind -/
def fst1 (b : Int) (t : ByteArray) : Option Nat := (sb t).findIdx? (fun c => c == b)
def at1 (b : Int) (t : ByteArray) : Int := match fst1 b t with
  | some i => (i : Int)
  | none => -1
def cut1 (b : Int) (t : ByteArray) : ByteArray × ByteArray := match fst1 b t with
  | some i => (t.extract 0 i, t.extract (i + 1) t.size)
  | none => (t, ⟨#[]⟩)
/-- does a text end with byte 10? -/
def end10 (t : ByteArray) : Bool := decide ((sb t).getLast? = some 10)
/-- a line without its end -/
def cut10 (t : ByteArray) : ByteArray := if end10 t = true then t.extract 0 (t.size - 1) else t
/-- the lines, without their ends -/
def ends (L : List ByteArray) : List ByteArray := if L.getLast? = some ⟨#[]⟩ then L.dropLast else L
def lines (s : ByteArray) : List ByteArray := ends (splitT 10 s)

theorem sb_ext (s : ByteArray) (f k : Nat) : sb (s.extract f k) = ((sb s).drop f).take (k - f) := by
  rw [ext_txt]
  exact sb_txtv (fun x hx => sb_byt s x (List.mem_of_mem_drop (List.mem_of_mem_take hx)))
theorem fst1_lt {b : Int} {s : ByteArray} {i : Nat} (h : fst1 b s = some i) : i < s.size := by
  have := (List.findIdx?_eq_some_iff_getElem.1 h).1
  rw [sb_len] at this
  exact this
theorem fst1_form {b : Int} {s : ByteArray} {i : Nat} (h : fst1 b s = some i) : sb s = (sb s).take i ++ [b] ++ (sb s).drop (i + 1) ∧ ∀ x ∈ (sb s).take i, x ≠ b := by
  obtain ⟨hi, h1, h2⟩ := List.findIdx?_eq_some_iff_getElem.1 h
  have h1' : (sb s)[i] = b := by simpa using h1
  refine ⟨?_, ?_⟩
  · rw [← h1', List.append_assoc]
    simp
  · intro x hx
    obtain ⟨j, hj, rfl⟩ := List.getElem_of_mem hx
    rw [List.getElem_take]
    have hj' : j < i := by rw [List.length_take] at hj; omega
    have := h2 j hj'
    simpa using this
theorem split_no {b : Int} {R : ByteArray} (h : fst1 b R = none) : splitT b R = [R] := by
  unfold splitT split
  rw [splitL_none b _ _ (fun x hx e => by have := List.findIdx?_eq_none_iff.1 h x hx; simp [e] at this)]
  simp [txt_sbv]
theorem split_yes {b : Int} {R : ByteArray} {i : Nat} (h : fst1 b R = some i) : splitT b R = R.extract 0 i :: splitT b (R.extract (i + 1) R.size) := by
  obtain ⟨e, hno⟩ := fst1_form h
  have e1 : sb (R.extract 0 i) = (sb R).take i := by rw [sb_ext]; simp
  have e2 : sb (R.extract (i + 1) R.size) = (sb R).drop (i + 1) := by
    rw [sb_ext, List.take_of_length_le (by rw [List.length_drop, sb_len]; omega)]
  unfold splitT split
  conv => lhs; rw [e]
  rw [splitL_app, splitL_none b ((sb R).take i) [] hno, e2]
  simp only [List.nil_append, List.map_append, List.map_cons, List.map_nil, List.singleton_append]
  rw [← e1, txt_sbv]
theorem lines_nil {R : ByteArray} (h : R.size = 0) : lines R = [] := by
  have : R = ⟨#[]⟩ := by
    rw [← txt_sbv R, List.eq_nil_of_length_eq_zero (by rw [sb_len]; exact h : (sb R).length = 0)]
    rfl
  subst this
  rfl
theorem lines_no {R : ByteArray} (h : fst1 10 R = none) (hp : 0 < R.size) : lines R = [R] := by
  unfold lines ends
  rw [split_no h, if_neg]
  intro h2
  simp at h2
  rw [h2] at hp
  exact Nat.lt_irrefl 0 hp
theorem ends_cons (x : ByteArray) {L : List ByteArray} (h : 0 < L.length) : ends (x :: L) = x :: ends L := by
  unfold ends
  cases L with
  | nil => simp at h
  | cons y r =>
    rw [List.getLast?_cons_cons]
    split
    · rfl
    · rfl
theorem lines_yes {R : ByteArray} {i : Nat} (h : fst1 10 R = some i) : lines R = R.extract 0 i :: lines (R.extract (i + 1) R.size) := by
  unfold lines
  rw [split_yes h, ends_cons]
  unfold splitT split
  rw [List.length_map]
  exact Ver.splitL_pos 10 _ []
theorem cut10_no {R : ByteArray} (h : fst1 10 R = none) : cut10 R = R := by
  unfold cut10 end10
  rw [if_neg]
  intro h2
  have h3 := of_decide_eq_true h2
  have h4 := List.mem_of_getLast? h3
  have := List.findIdx?_eq_none_iff.1 h _ h4
  simp at this
theorem end10_yes {R : ByteArray} {i : Nat} (h : fst1 10 R = some i) : end10 (R.extract 0 (i + 1)) = true := by
  have hi := fst1_lt h
  obtain ⟨hi2, h1, -⟩ := List.findIdx?_eq_some_iff_getElem.1 h
  have h1' : (sb R)[i] = 10 := by simpa using h1
  unfold end10
  apply decide_eq_true
  rw [sb_ext]
  simp only [List.drop_zero, Nat.sub_zero]
  rw [List.getLast?_eq_getElem?, List.length_take, List.getElem?_take]
  have hl := sb_len R
  rw [if_pos (by omega), Nat.min_eq_left (by omega)]
  show (sb R)[i + 1 - 1]? = some 10
  rw [Nat.add_sub_cancel, List.getElem?_eq_getElem hi2, h1']
theorem cut10_yes {R : ByteArray} {i : Nat} (h : fst1 10 R = some i) : cut10 (R.extract 0 (i + 1)) = R.extract 0 i := by
  have hi := fst1_lt h
  unfold cut10
  rw [if_pos (end10_yes h)]
  rw [ByteArray.size_extract, ByteArray.extract_extract]
  congr 1
  omega
theorem cut10_size (t : ByteArray) : (cut10 t).size ≤ t.size := by
  unfold cut10
  split
  · rw [ByteArray.size_extract]; omega
  · exact Nat.le_refl _
theorem cut1_size (b : Int) (t : ByteArray) : (cut1 b t).1.size ≤ t.size ∧ (cut1 b t).2.size ≤ t.size := by
  unfold cut1
  split
  · simp only [ByteArray.size_extract]; omega
  · exact ⟨Nat.le_refl _, Nat.zero_le _⟩
theorem cut1_at {b : Int} {x y : List Int} (hx : ∀ z ∈ x, z ≠ b) (h1 : Byt (x ++ [b] ++ y)) : cut1 b (Plain.txt (x ++ [b] ++ y)) = (Plain.txt x, Plain.txt y) := by
  have e : fst1 b (Plain.txt (x ++ [b] ++ y)) = some x.length := by
    unfold fst1
    rw [sb_txtv h1]
    refine List.findIdx?_eq_some_iff_getElem.2 ⟨by simp, by simp, fun j hj => ?_⟩
    have e : (x ++ [b] ++ y)[j]'(by simp; omega) = x[j] := by rw [List.getElem_append_left (by simp; omega), List.getElem_append_left hj]
    rw [e]
    have := hx _ (List.getElem_mem hj)
    simpa using this
  have hsz : (Plain.txt (x ++ [b] ++ y)).size = x.length + 1 + y.length := by rw [← sb_len, sb_txtv h1, List.length_append, List.length_append]; rfl
  unfold cut1
  rw [e]
  simp only
  rw [ext_txt, ext_txt, sb_txtv h1, hsz]
  refine Prod.ext ?_ ?_
  · simp only
    congr 1
    rw [List.append_assoc]
    simp
  · simp only
    congr 1
    have : (x ++ [b] ++ y).drop (x.length + 1) = y := by
      rw [show x.length + 1 = (x ++ [b]).length by simp, List.drop_left]
    rw [this, List.take_of_length_le (by omega)]

/-- does a text begin as a lock does? -/
def mark (t : ByteArray) : Bool := decide ((sb t).take 6 = [105, 110, 100, 101, 120, 32])
def behind (t : ByteArray) : ByteArray := if mark t = true then t.extract 6 t.size else t
theorem behind_size (t : ByteArray) : (behind t).size ≤ t.size := by
  unfold behind
  split
  · rw [ByteArray.size_extract]; omega
  · exact Nat.le_refl _
/-- what the first line is read as -/
def size1 (t : ByteArray) : Int × Bool := upTo (sb (cut1 32 (behind t)).1) 200
def root1 (t : ByteArray) : ByteArray × Bool := unHex (cut1 32 (behind t)).2
def rdHead (t : ByteArray) : Hd × Bool := (⟨(size1 t).1, (root1 t).1⟩, mark t && (size1 t).2 && (root1 t).2)
def named (r : List ByteArray) : Bool := r.all (fun t => (pname t).2)
/-- what the landed ParseLock answers -/
def parseI (s : ByteArray) : Hd × List Nd × Bool := match lines s with
  | [] => none17
  | t :: r => if (rdHead t).2 = true ∧ named r = true ∧ lock (rdHead t).1 (r.map need1) = s then ((rdHead t).1, r.map need1, true) else none17

theorem upTo_digF {n : Nat} (h : n ≤ 200) : upTo (digF 6 n) 200 = ((n : Int), true) := by
  have h1 := digF_num (n := n) (by omega)
  obtain ⟨h2, h3⟩ := num_upTo (digF 6 n)
  have hin : inM (number (digF 6 n)) = true := by
    rw [h1]
    unfold inM
    simp
    omega
  have h4 := h2.1 hin
  have h5 := h3 hin
  rw [h1] at h5
  have h6 : isNum (digF 6 n) = true ∧ numv (digF 6 n) = (n : Int) := by
    unfold upTo at h4 h5
    split at h4
    · rename_i hc
      rw [if_pos hc] at h5
      exact ⟨hc.1, h5.symm⟩
    · cases h4
  unfold upTo
  rw [if_pos ⟨h6.1, by omega⟩, h6.2]
theorem line0_form (h : Hd) : line0 h = [105, 110, 100, 101, 120, 32] ++ (digF 6 h.n.toNat ++ [32] ++ hexs (sb h.r)) := by
  unfold line0 word0
  rfl
theorem head_parts (d x : List Int) (hd : ∀ z ∈ d, z ≠ 32) (h : Byt ([105, 110, 100, 101, 120, 32] ++ (d ++ [32] ++ x))) :
    mark (Plain.txt ([105, 110, 100, 101, 120, 32] ++ (d ++ [32] ++ x))) = true ∧ cut1 32 (behind (Plain.txt ([105, 110, 100, 101, 120, 32] ++ (d ++ [32] ++ x)))) = (Plain.txt d, Plain.txt x) := by
  have hb : Byt (d ++ [32] ++ x) := fun z hz => h z (List.mem_append.2 (.inr hz))
  have hm : mark (Plain.txt ([105, 110, 100, 101, 120, 32] ++ (d ++ [32] ++ x))) = true := by
    unfold mark
    apply decide_eq_true
    rw [sb_txtv h]
    exact List.take_left' rfl
  refine ⟨hm, ?_⟩
  have hbh : behind (Plain.txt ([105, 110, 100, 101, 120, 32] ++ (d ++ [32] ++ x))) = Plain.txt (d ++ [32] ++ x) := by
    have hsz : (Plain.txt ([105, 110, 100, 101, 120, 32] ++ (d ++ [32] ++ x))).size = 6 + (d ++ [32] ++ x).length := by
      rw [← sb_len, sb_txtv h, List.length_append]
      rfl
    have h6 : ([105, 110, 100, 101, 120, 32] ++ (d ++ [32] ++ x)).drop 6 = d ++ [32] ++ x := List.drop_left' (l₁ := [105, 110, 100, 101, 120, 32]) rfl
    unfold behind
    rw [if_pos hm, ext_txt, sb_txtv h, hsz, h6, List.take_of_length_le (by omega)]
  rw [hbh]
  exact cut1_at hd hb
theorem rdHead_line0 {h : Hd} (hk : okH h = true) : rdHead (Plain.txt (line0 h)) = (h, true) := by
  have h1 : (0 ≤ h.n ∧ h.n ≤ 200) ∧ h.r.size = 32 := of_decide_eq_true hk
  have hb := line0_byt hk
  rw [line0_form] at hb
  obtain ⟨hm, hc⟩ := head_parts _ _ (digF_no (by omega) 32 (by omega)) hb
  have hs : upTo (sb (Plain.txt (digF 6 h.n.toNat))) 200 = (h.n, true) := by
    rw [sb_txtv (digF_byt 6 _ (by omega)), upTo_digF (by omega), Int.toNat_of_nonneg h1.1.1]
  have hr : unHex (Plain.txt (hexs (sb h.r))) = (h.r, true) := by
    rw [unHex_back (sb_byt _), txt_sbv]
  unfold rdHead size1 root1
  rw [line0_form, hc, hm]
  simp only
  rw [hs, hr]
  rfl
theorem lines_lock {h : Hd} {l : List Nd} (hk : lockOk h l = true) : lines (lock h l) = Plain.txt (line0 h) :: l.map name5 := by
  unfold lines ends
  rw [splitT_lock hk, ← List.cons_append, List.getLast?_concat, if_pos rfl, List.dropLast_concat]
theorem named_map {l : List Nd} (h : ∀ n ∈ l, n.ok = true) : named (l.map name5) = true := by
  unfold named
  rw [List.all_map, List.all_eq_true]
  intro n hn
  show (pname (name5 n)).2 = true
  rw [pname_name (h n hn)]
theorem map_need1 {l : List Nd} (h : ∀ n ∈ l, n.ok = true) : (l.map name5).map need1 = l := by
  rw [List.map_map]
  conv => rhs; rw [← List.map_id l]
  apply List.map_congr_left
  intro n hn
  show need1 (name5 n) = n
  unfold need1
  rw [pname_name (h n hn)]
/-- the landed code reads just what the specification does -/
theorem parseI_eq (s : ByteArray) : parseI s = parse s := by
  have hno : (parse s).2.2 = false → parse s = none17 := parse_no
  have hyes : ∀ h l, parse s = (h, l, true) → parseI s = (h, l, true) := by
    intro h l hp
    obtain ⟨h1, h2⟩ := (parse_iff s h l).1 hp
    have hk := lock_ok h1 h2
    obtain ⟨k1, k2, k3⟩ := lockOk_parts hk
    have hr := rise_ok l k3
    unfold parseI
    rw [← h1, lines_lock hk]
    simp only
    rw [rdHead_line0 k1, named_map hr, map_need1 hr, if_pos ⟨rfl, rfl, rfl⟩]
  cases hb : (parse s).2.2 with
  | true =>
    have e : parse s = ((parse s).1, (parse s).2.1, true) := by rw [← hb]
    rw [hyes _ _ e]
    exact e.symm
  | false =>
    rw [hno hb]
    unfold parseI
    cases hl : lines s with
    | nil => rfl
    | cons t r =>
      simp only
      rw [if_neg]
      rintro ⟨c1, c2, c3⟩
      have h0 : s ≠ ⟨#[]⟩ := by
        rintro rfl
        rw [lines_nil rfl] at hl
        cases hl
      have := (parse_iff s _ _).2 ⟨c3, h0⟩
      rw [this] at hb
      cases hb
theorem lines_sizes (s : ByteArray) : (lines s).length ≤ s.size + 1 ∧ ∀ t ∈ lines s, t.size ≤ s.size := by
  have h1 : ∀ t ∈ lines s, t ∈ splitT 10 s := by
    intro t ht
    unfold lines ends at ht
    split at ht
    · exact List.dropLast_subset _ ht
    · exact ht
  refine ⟨?_, fun t ht => splitT_size 10 s t (h1 t ht)⟩
  have h2 : (lines s).length ≤ (splitT 10 s).length := by
    unfold lines ends
    split
    · rw [List.length_dropLast]; omega
    · exact Nat.le_refl _
  have h3 := Ver.splitL_len 10 (sb s) []
  have h4 : (splitT 10 s).length ≤ s.size + 1 := by
    unfold splitT split
    rw [List.length_map, ← sb_len]
    exact h3
  omega

end Go.Proofs.YtbopliahafkecaaGreatDoor.Lm

/- Chapter 17, the landed code: lines that keep the next one by a pointer; one is put behind the last. -/
namespace Go.Proofs.YtbopliahafkecaaGreatDoor.Lm
open Go.RowKit Go.Proofs.YtbopliahafkecaaGreatDoor.Mem Go.Proofs.YtbopliahafkecaaGreatDoor.Laws Go.Proofs.YtbopliahafkecaaGreatDoor.Bytes Go.Proofs.YtbopliahafkecaaGreatDoor.Sha Go.Proofs.YtbopliahafkecaaGreatDoor.Ver Go.Proofs.YtbopliahafkecaaGreatDoor.Mod Go.Proofs.YtbopliahafkecaaGreatDoor.Ent Go.Proofs.YtbopliahafkecaaGreatDoor.He Go.Proofs.YtbopliahafkecaaGreatDoor.Lk
set_option linter.unusedVariables false
set_option linter.unusedSimpArgs false

/-- a list's first line -/
def nx : List (Nat × ByteArray) → Value
  | [] => .pointer none
  | x :: _ => .pointer (some ⟨x.1, 0, none⟩)
/-- lines (block, text) lie one behind the other -/
def Lns (w : World) : List (Nat × ByteArray) → Prop
  | [] => True
  | x :: r => w.heap[x.1]? = some (.cells #[.string x.2, nx r] 55 (0, 0)) ∧ (∀ y ∈ r, x.1 < y.1) ∧ Lns w r
theorem Lns.lt {w : World} : ∀ {L : List (Nat × ByteArray)}, Lns w L → ∀ x ∈ L, x.1 < w.heap.size := by
  intro L
  induction L with
  | nil => intro _ x hx; cases hx
  | cons y r ih =>
    intro h x hx
    rcases List.mem_cons.1 hx with rfl | hx
    · exact (Array.getElem?_eq_some_iff.1 h.1).1
    · exact ih h.2.2 x hx
theorem Lns.keep {w w' : World} : ∀ {L : List (Nat × ByteArray)}, Lns w L → (∀ x ∈ L, w'.heap[x.1]? = w.heap[x.1]?) → Lns w' L := by
  intro L
  induction L with
  | nil => intro _ _; trivial
  | cons y r ih =>
    intro h hk
    exact ⟨(hk y (by simp)).trans h.1, h.2.1, ih h.2.2 (fun x hx => hk x (by simp [hx]))⟩
theorem Lns.later {w w' : World} {L : List (Nat × ByteArray)} (h : Lns w L) (b : Below w.heap.size w w') : Lns w' L :=
  h.keep (fun x hx => b.block x.1 (h.lt x hx))
/-- some row stands there that is no line -/
theorem Lns.gro {w w' : World} {L : List (Nat × ByteArray)} {r : Option Nat} (h : Lns w L) (g : w.grownBy w' r) (hr : ∀ x ∈ L, r ≠ some x.1) : Lns w' L :=
  h.keep (fun x hx => g.block x.1 (h.lt x hx) (fun e => hr x hx e.symm))
theorem Lns.row {w : World} : ∀ {L : List (Nat × ByteArray)}, Lns w L → ∀ x ∈ L, ∃ v, w.heap[x.1]? = some (.cells #[.string x.2, v] 55 (0, 0)) := by
  intro L
  induction L with
  | nil => intro _ x hx; cases hx
  | cons y r ih =>
    intro h x hx
    rcases List.mem_cons.1 hx with rfl | hx
    · exact ⟨_, h.1⟩
    · exact ih h.2.2 x hx
/-- the row of another type is no line's -/
theorem Lns.ne {w : World} {L : List (Nat × ByteArray)} {g : Nat} {cs : Array Value} {t : TypeId} {fr : Nat × Nat} (h : Lns w L) (hg : w.heap[g]? = some (.cells cs t fr)) (ht : t ≠ 55) : ∀ x ∈ L, g ≠ x.1 := by
  intro x hx e
  obtain ⟨v, hv⟩ := h.row x hx
  rw [← e, hg] at hv
  simp only [Option.some.injEq, Obj.cells.injEq] at hv
  exact ht hv.2.1
theorem nx_app : ∀ (L : List (Nat × ByteArray)) (x : Nat × ByteArray), ∀ M, nx (L ++ x :: M) = nx (L ++ [x]) := by
  intro L x M
  cases L <;> rfl
/-- a line is put behind the last one -/
theorem Lns.snoc {w w' : World} {b g : Nat} {t s : ByteArray} : ∀ {L : List (Nat × ByteArray)}, Lns w (L ++ [(b, t)]) → w'.heap[b]? = some (.cells #[.string t, .pointer (some ⟨g, 0, none⟩)] 55 (0, 0)) →
    w'.heap[g]? = some (.cells #[.string s, .pointer none] 55 (0, 0)) → w.heap.size ≤ g → w.grownBy w' (some b) → Lns w' (L ++ [(b, t)] ++ [(g, s)]) := by
  intro L
  induction L with
  | nil =>
    intro h hb hg hs gr
    refine ⟨hb, ?_, hg, by intro y hy; simp at hy, trivial⟩
    intro y hy
    simp at hy
    subst hy
    have := Lns.lt h (b, t) (by simp)
    show b < g
    simp only at this
    omega
  | cons y r ih =>
    intro h hb hg hs gr
    have hlt := Lns.lt h
    have hne : y.1 < b := h.2.1 (b, t) (by simp)
    refine ⟨?_, ?_, ih h.2.2 hb hg hs gr⟩
    · rw [gr.block y.1 (hlt y (by simp)) (fun e => by injection e with e; omega), h.1]
      show some (Obj.cells #[.string y.2, nx (r ++ [(b, t)])] _ _) = some (Obj.cells #[.string y.2, nx (r ++ [(b, t)] ++ [(g, s)])] _ _)
      rw [List.append_assoc]
      show some (Obj.cells #[.string y.2, nx (r ++ [(b, t)])] _ _) = some (Obj.cells #[.string y.2, nx (r ++ (b, t) :: [(g, s)])] _ _)
      rw [nx_app r (b, t) [(g, s)]]
    · intro z hz
      have hz2 : z ∈ r ++ [(b, t)] ∨ z = (g, s) := by
        simp only [List.append_eq, List.mem_append, List.mem_singleton] at hz ⊢
        rcases hz with hz | hz
        · exact .inl (by simpa using hz)
        · exact .inr hz
      rcases hz2 with hz2 | rfl
      · exact h.2.1 z hz2
      · have := hlt y (by simp)
        show y.1 < g
        omega

set_option maxRecDepth 1000000 in
set_option maxHeartbeats 2000000 in
theorem add_impl (w : World) (b : Nat) (t s : ByteArray) (q : Value) (h : w.heap[b]? = some (.cells #[.string t, q] 55 (0, 0))) :
    Calls Tryz.prog 27 #[.pointer (some ⟨b, 0, none⟩), .string s] w fun e w' => ∃ g, e = .returned (.pointer (some ⟨g, 0, none⟩)) ∧ w.heap.size ≤ g ∧ w'.heap[b]? = some (.cells #[.string t, .pointer (some ⟨g, 0, none⟩)] 55 (0, 0)) ∧ w'.heap[g]? = some (.cells #[.string s, .pointer none] 55 (0, 0)) ∧ w.grownBy w' (some b) := by
  obtain ⟨W1, HW1, b1, y1, hS1, r1⟩ := Ke.l1 w #[.string s, .pointer none] 55
  have hb : b < w.heap.size := (Array.getElem?_eq_some_iff.1 h).1
  have rb : Hid (W1.heap[b]? = some (.cells #[.string t, q] 55 (0, 0))) := rowKeep h b1
  have HS : Hid (w.grownBy W1 none) := ⟨b1.os, b1.tape, b1.output, b1.size, fun k hk _ => b1.block k hk⟩
  clear h b1 hS1
  go_enter Tryz.func27, Tryz.ntmps27
  go_wp2_with (rw [HW1.out]; refine wpl_oneG rfl 51 _ _ rfl b 1 (.pointer (some ⟨w.heap.size, 0, none⟩)) rfl rfl [.string t, q] 55 rb.out (Nat.le_of_ble_eq_true rfl) rfl rfl [.string t, .pointer (some ⟨w.heap.size, 0, none⟩)] rfl ?_)
  intro W2 rb2 gr
  have RB2 : Hid (W2.heap[b]? = some (.cells #[.string t, .pointer (some ⟨w.heap.size, 0, none⟩)] 55 (0, 0))) := rb2
  have c2 := Ke.c RB2
  have RG : Hid (W2.heap[w.heap.size]? = some (.cells #[.string s, .pointer none] 55 (0, 0))) := Ke.s r1 gr
  have GR : Hid (w.grownBy W2 (some b)) := ⟨gr.os.trans HS.out.os, gr.tape.trans HS.out.tape, gr.output.trans HS.out.output, Nat.le_trans HS.out.size gr.size, fun k hk hn => (gr.block k (Nat.lt_of_lt_of_le hk HS.out.size) hn).trans (HS.out.block k hk (by simp))⟩
  clear rb rb2 gr HS HW1 r1
  go_wp2
  go_ret
  exact ⟨_, rfl, Nat.le_refl _, RB2.out, RG.out, GR.out⟩

end Go.Proofs.YtbopliahafkecaaGreatDoor.Lm
