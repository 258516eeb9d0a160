/- Texts in one: Sz2, SrI. -/
import Derived.Test.YtfpaichdkddglaaDoorPk8
import Derived.Test.YtfpaichdkddglaaDoorPk14
import Derived.Test.YtfpaichdkddglaaDoorPk10
import Derived.Test.YtfpaichdkddglaaDoorPk11
/- The laws' helper szStringS, with what is left. -/
namespace Go.Proofs.YtfpaichdkddglaaDoor.Strs
open Go.RowKit Go.Proofs.YtfpaichdkddglaaDoor.Mem Go.Proofs.YtfpaichdkddglaaDoor.Laws Go.Proofs.YtfpaichdkddglaaDoor.Bytes
set_option linter.unusedVariables false
set_option linter.unusedSimpArgs false

set_option maxRecDepth 1000000 in
set_option maxHeartbeats 400000 in
/-- szStringS: below 0 where there is more than what is left; else what is left then. -/
theorem sz_any2 (w : World) (v : Value) (l : List ByteArray) (left : Nat) (h : Sl w v (ss l)) (hs : ∀ s ∈ l, s.size ≤ 9223372036854775807) (hx : l.length ≤ 9223372036854775807) (hlf : left ≤ 1048576) :
    Calls Tryd.prog 14 #[v, .int .i64 (left : Int)] w fun e w' => (∃ r : Int, e = .returned (.int .i64 r) ∧ (r < 0 ∨ (l.length + Puts.tot l ≤ left ∧ 0 ≤ r ∧ r ≤ left))) ∧ w = w' := by
  obtain ⟨ao, cap, rfl, hc1, _, hr1⟩ := h
  rw [ss_len] at hr1 hc1
  rw [ss_len]
  by_cases hbig : left < l.length
  · go_enter Tryd.func14, Tryd.ntmps14
    go_wp2
    go_ret
    exact ⟨⟨_, rfl, .inl (by decide)⟩, rfl⟩
  · go_enter Tryd.func14, Tryd.ntmps14
    go_wp2
    go_loop [1, 5] (fun lf i => ∃ (k m : Nat), k ≤ l.length ∧ i = .int .i64 k ∧ lf = .int .i64 (m : Int) ∧ m + l.length + Puts.tot (l.take k) = left) (fun _ i => l.length - (intOf i).toNat)
    case atStart => exact ⟨0, left - l.length, Nat.zero_le _, rfl, congrArg (Value.int .i64) (by omega), by simp [Puts.tot]; omega⟩
    case round =>
      obtain ⟨k, m, hk, rfl, rfl, hm⟩ := hrel
      have HM : Hid (m + l.length + Puts.tot (l.take k) = left) := hm
      have hmb : m ≤ 1048576 := by omega
      clear hm
      by_cases hlt : k < l.length
      · obtain ⟨b, off, s, rfl, hx0, hcell⟩ := Sl.strAt hr1 rfl hlt
        have hsz := hs s (List.mem_of_getElem? hx0)
        have HT : Hid (Puts.tot (l.take (k + 1)) = Puts.tot (l.take k) + s.size) := tot_take l k s hx0
        clear hx0 hr1 hs
        by_cases hneg : m < s.size
        · go_wp2
          go_ret
          exact ⟨⟨_, rfl, .inl (by decide)⟩, rfl⟩
        · go_wp2
          go_round
          case rel => exact ⟨k + 1, m - s.size, by omega, by go_num, congrArg (Value.int .i64) (by omega), by have := HM.out; have := HT.out; omega⟩
          case measure => simp [intOf]; omega
      · go_wp2
        go_ret
        refine ⟨⟨_, rfl, .inr ⟨?_, ?_, ?_⟩⟩, rfl⟩
        · have h1 := HM.out
          rw [List.take_of_length_le (by omega)] at h1
          omega
        · show (0 : Int) ≤ (m : Int)
          omega
        · have h1 := HM.out
          show (m : Int) ≤ (left : Int)
          omega

end Go.Proofs.YtfpaichdkddglaaDoor.Strs

/- Chapter 12: the exact laws of PutCommit and GetCommit, over contracts of the landed functions. -/
namespace Go.Proofs.YtfpaichdkddglaaDoor.Sr
open Go.RowKit Go.Proofs.YtfpaichdkddglaaDoor.Mem Go.Proofs.YtfpaichdkddglaaDoor.Laws Go.Proofs.YtfpaichdkddglaaDoor.Bytes Go.Proofs.YtfpaichdkddglaaDoor.Sha Go.Proofs.YtfpaichdkddglaaDoor.Tr Go.Proofs.YtfpaichdkddglaaDoor.He Go.Proofs.YtfpaichdkddglaaDoor.Lg
set_option linter.unusedVariables false
set_option linter.unusedSimpArgs false

theorem mem_tot12 : ∀ {l : List ByteArray} {s : ByteArray}, s ∈ l → s.size ≤ Puts.tot l := by
  intro l
  induction l with
  | nil => intro s h; cases h
  | cons a r ih =>
    intro s h
    simp only [Puts.tot]
    rcases List.mem_cons.1 h with rfl | h
    · omega
    · have := ih h; omega
theorem putC_len (h : Hd) (x : List ByteArray) : (putC h x).length ≤ h.r.size + 24 + 5 * x.length + Puts.tot x := by
  have h1 := put_len h x
  have h2 := body_len h x
  unfold putC
  split
  · omega
  · simp

set_option maxRecDepth 1000000 in
set_option maxHeartbeats 16000000 in
theorem putc_spec (w : World) (h : Hd) (v : Value) (x : List ByteArray) (hs : Sl w v (ss x)) (hl : x.length ≤ 1000000000) (ht : Puts.tot x ≤ 100000000000) (hr : h.r.size ≤ 100000000000) :
    Calls Tryd.prog 15 #[.agg #[.int .i64 h.n, .string h.r], v] w fun e w' => ∃ v', e = .returned v' ∧ Own w' w.heap.size w'.heap.size 5 v' (bs (putC h x)) ∧ Below w.heap.size w w' := by
  have HS : Hid (Sl w v (ss x)) := hs
  obtain ⟨ao0, cap0, rfl, hc0⟩ := hs.form
  rw [ss_len] at *
  clear hs
  have B0 : Hid (Below w.heap.size w w) := Below.refl _ _
  obtain ⟨W1, HW1, b1, y1, hS1, r_h1⟩ : ∃ X, Hid ((w.alloc (.cells #[.int .i64 h.n, .string h.r] 25)) = X) ∧ Below w.heap.size w X ∧ w.heap.size + 1 ≤ X.heap.size ∧ Hid (X.heap.size = w.heap.size + 1) ∧ Hid (X.heap[w.heap.size]? = some (.cells #[.int .i64 h.n, .string h.r] 25 (0, 0))) := ⟨_, rfl, ((Below.refl _ _).alloc (Nat.le_refl _) _), by simp, by show _ = _; simp, (by show _ = _; exact alloc_nth1_0 w _)⟩
  have z1 : w.heap.size ≤ W1.heap.size := b1.size
  have B1 : Hid (Below w.heap.size w W1) := B0.out.trans (b1.mono B0.out.size)
  have c_h1_0 : W1.cell? ⟨w.heap.size, 0, none⟩ = some (.int .i64 h.n) := row_at r_h1.out 0
  have c_h1_1 : W1.cell? ⟨w.heap.size, 1, none⟩ = some (.string h.r) := row_at r_h1.out 1
  have q1 : ∀ W, _ := fun W => ok_spec W h
  have q3 : ∀ W v1, Sl W v1 (ss x) → _ := fun W v1 h1 => put_spec W h v1 x h1 hl ht hr
  obtain ⟨A, hA⟩ : ∃ A, okH h = A := ⟨_, rfl⟩
  simp only [hA] at q1
  have HA : Hid (okH h = A) := hA
  obtain ⟨P, hP⟩ : ∃ P, putC h x = P := ⟨_, rfl⟩
  have HP : Hid (putC h x = P) := hP
  rw [hP]
  clear hA hP
  go_enter Tryd.func15, Tryd.ntmps15
  go_wp2_with fail
  rw [HW1.out]
  refine (q1 W1).mono ?_
  rintro e W2 ⟨rfl, b2⟩
  have z2 : W1.heap.size ≤ W2.heap.size := b2.size
  have B2 : Hid (Below w.heap.size w W2) := B1.out.trans (b2.mono B1.out.size)
  have r_h2 : Hid (W2.heap[w.heap.size]? = some (.cells #[.int .i64 h.n, .string h.r] 25 (0, 0))) := rowKeep r_h1.out b2
  have c_h2_0 : W2.cell? ⟨w.heap.size, 0, none⟩ = some (.int .i64 h.n) := row_at r_h2.out 0
  have c_h2_1 : W2.cell? ⟨w.heap.size, 1, none⟩ = some (.string h.r) := row_at r_h2.out 1
  clear r_h1 c_h1_0 c_h1_1
  cases A
  · have HN : Hid (P = []) := by show _ = _; rw [← HP.out]; unfold putC; rw [HA.out, if_neg (by simp)]
    have a_h2_0 : ∀ o, (W2.alloc o).cell? ⟨w.heap.size, 0, none⟩ = some (.int .i64 h.n) := fun o => keepR c_h2_0 ((Below.refl _ _).alloc (Nat.le_refl _) o)
    have a_h2_1 : ∀ o, (W2.alloc o).cell? ⟨w.heap.size, 1, none⟩ = some (.string h.r) := fun o => keepR c_h2_1 ((Below.refl _ _).alloc (Nat.le_refl _) o)
    obtain ⟨W3, HW3, b3, o_z3⟩ : ∃ X, Hid ((W2.alloc (.cells #[] 5)) = X) ∧ Below W2.heap.size W2 X ∧ Hid (Own X W2.heap.size X.heap.size 5 (.slice (some ⟨W2.heap.size, 0, none⟩) 0 0) (bs [])) := ⟨_, rfl, (Below.refl _ _).alloc (Nat.le_refl _) _, Puts.Own.empty W2 W2.heap.size (Nat.le_refl _)⟩
    have z3 : W2.heap.size ≤ W3.heap.size := b3.size
    have B3 : Hid (Below w.heap.size w W3) := B2.out.trans (b3.mono B2.out.size)
    have r_h3 : Hid (W3.heap[w.heap.size]? = some (.cells #[.int .i64 h.n, .string h.r] 25 (0, 0))) := rowKeep r_h2.out b3
    have c_h3_0 : W3.cell? ⟨w.heap.size, 0, none⟩ = some (.int .i64 h.n) := row_at r_h3.out 0
    have c_h3_1 : W3.cell? ⟨w.heap.size, 1, none⟩ = some (.string h.r) := row_at r_h3.out 1
    clear r_h2 c_h2_0 c_h2_1
    go_wp2_with fail
    rw [HW3.out]
    clear a_h2_0 a_h2_1
    go_ret
    refine ⟨_, rfl, ?_, B3.out⟩
    rw [HN.out]
    exact Own.mono o_z3.out (by omega) (Nat.le_refl _)
  · by_cases hin : (1 : Int) ≤ (x.length : Int) ∧ (x.length : Int) ≤ 200
    · have q2 := in6t W2 hin
      have HN : Hid (P = put h x) := by show _ = _; rw [← HP.out]; unfold putC; rw [if_pos ⟨HA.out, by omega, by omega⟩]
      clear hin
      go_wp2_with fail
      refine q2.mono ?_
      rintro e W_ ⟨rfl, hW_⟩
      subst hW_
      clear q2
      go_wp2_with fail
      refine (q3 W2 _ (HS.out.later B2.out)).mono ?_
      rintro e W3 ⟨v_p, rfl, o_p3, b3⟩
      obtain ⟨ao_p, L_p, cap_p, rfl, hL_p, hM_p⟩ := o_p3.form
      have o_p3 : Hid (Own W3 W2.heap.size W3.heap.size 5 (.slice ao_p L_p cap_p) (bs (put h x))) := o_p3
      clear hL_p hM_p
      have z3 : W2.heap.size ≤ W3.heap.size := b3.size
      have B3 : Hid (Below w.heap.size w W3) := B2.out.trans (b3.mono B2.out.size)
      have r_h3 : Hid (W3.heap[w.heap.size]? = some (.cells #[.int .i64 h.n, .string h.r] 25 (0, 0))) := rowKeep r_h2.out b3
      have c_h3_0 : W3.cell? ⟨w.heap.size, 0, none⟩ = some (.int .i64 h.n) := row_at r_h3.out 0
      have c_h3_1 : W3.cell? ⟨w.heap.size, 1, none⟩ = some (.string h.r) := row_at r_h3.out 1
      clear r_h2 c_h2_0 c_h2_1
      go_wp2
      go_ret
      refine ⟨_, rfl, ?_, B3.out⟩
      rw [HN.out]
      exact Own.mono o_p3.out (by omega) (Nat.le_refl _)
    · have q2 := in6f W2 hin
      have HIN : Hid (¬ ((1 : Int) ≤ (x.length : Int) ∧ (x.length : Int) ≤ 200)) := hin
      clear hin
      go_wp2_with fail
      refine q2.mono ?_
      rintro e W_ ⟨rfl, hW_⟩
      subst hW_
      clear q2
      have HN : Hid (P = []) := by show _ = _; rw [← HP.out]; unfold putC; rw [if_neg (fun h9 => HIN.out (by omega))]
      have a_h2_0 : ∀ o, (W2.alloc o).cell? ⟨w.heap.size, 0, none⟩ = some (.int .i64 h.n) := fun o => keepR c_h2_0 ((Below.refl _ _).alloc (Nat.le_refl _) o)
      have a_h2_1 : ∀ o, (W2.alloc o).cell? ⟨w.heap.size, 1, none⟩ = some (.string h.r) := fun o => keepR c_h2_1 ((Below.refl _ _).alloc (Nat.le_refl _) o)
      obtain ⟨W3, HW3, b3, o_z3⟩ : ∃ X, Hid ((W2.alloc (.cells #[] 5)) = X) ∧ Below W2.heap.size W2 X ∧ Hid (Own X W2.heap.size X.heap.size 5 (.slice (some ⟨W2.heap.size, 0, none⟩) 0 0) (bs [])) := ⟨_, rfl, (Below.refl _ _).alloc (Nat.le_refl _) _, Puts.Own.empty W2 W2.heap.size (Nat.le_refl _)⟩
      have z3 : W2.heap.size ≤ W3.heap.size := b3.size
      have B3 : Hid (Below w.heap.size w W3) := B2.out.trans (b3.mono B2.out.size)
      have r_h3 : Hid (W3.heap[w.heap.size]? = some (.cells #[.int .i64 h.n, .string h.r] 25 (0, 0))) := rowKeep r_h2.out b3
      have c_h3_0 : W3.cell? ⟨w.heap.size, 0, none⟩ = some (.int .i64 h.n) := row_at r_h3.out 0
      have c_h3_1 : W3.cell? ⟨w.heap.size, 1, none⟩ = some (.string h.r) := row_at r_h3.out 1
      clear r_h2 c_h2_0 c_h2_1
      go_wp2_with fail
      rw [HW3.out]
      clear a_h2_0 a_h2_1
      go_ret
      refine ⟨_, rfl, ?_, B3.out⟩
      rw [HN.out]
      exact Own.mono o_z3.out (by omega) (Nat.le_refl _)

set_option maxRecDepth 1000000 in
set_option maxHeartbeats 16000000 in
theorem exact_putcommit (w : World) (h : Hd) (hhm : h.r.size ≤ maxLen) (v : Value) (x : List ByteArray) (hs : Sl w v (ss x)) (hz : ∀ s ∈ x, s.size ≤ maxLen) (hm : x.length ≤ maxLen)
    (iF : ∀ W v', Below w.heap.size w W → Sl W v' (ss x) → h.r.size ≤ 1048576 → x.length ≤ 1048576 → (∀ s ∈ x, s.size ≤ 1048576) → Puts.tot x ≤ 1048576 → Calls Tryd.prog 8 #[.agg #[.int .i64 h.n, .string h.r], v'] W fun e w' => ∃ u, e = .returned u ∧ Own w' W.heap.size w'.heap.size 5 u (bs (putC h x)) ∧ Below W.heap.size W w') :
    Calls Tryd.prog 4 #[.agg #[.int .i64 h.n, .string h.r], v] w fun e w' => e = .returned (.bool true) ∧ Below w.heap.size w w' := by
  have HS : Hid (Sl w v (ss x)) := hs
  unfold maxLen at *
  obtain ⟨ao0, cap0, rfl, hc0⟩ := hs.form
  rw [ss_len] at *
  clear hs
  have B0 : Hid (Below w.heap.size w w) := Below.refl _ _
  obtain ⟨W1, HW1, b1, y1, hS1, r_a1⟩ : ∃ X, Hid ((w.alloc (.cells #[.int .i64 h.n, .string h.r] 36)) = X) ∧ Below w.heap.size w X ∧ w.heap.size + 1 ≤ X.heap.size ∧ Hid (X.heap.size = w.heap.size + 1) ∧ Hid (X.heap[w.heap.size]? = some (.cells #[.int .i64 h.n, .string h.r] 36 (0, 0))) := ⟨_, rfl, ((Below.refl _ _).alloc (Nat.le_refl _) _), by simp, by show _ = _; simp, (by show _ = _; exact alloc_nth1_0 w _)⟩
  have z1 : w.heap.size ≤ W1.heap.size := b1.size
  have B1 : Hid (Below w.heap.size w W1) := B0.out.trans (b1.mono B0.out.size)
  have c_a1_0 : W1.cell? ⟨w.heap.size, 0, none⟩ = some (.int .i64 h.n) := row_at r_a1.out 0
  have c_a1_1 : W1.cell? ⟨w.heap.size, 1, none⟩ = some (.string h.r) := row_at r_a1.out 1
  have q0 : ∀ W, _ := fun W => sz_head W h 1048576 hhm (by omega) (by omega)
  by_cases hb : (1048576 : Int) - (h.r.size : Int) < 0
  · simp only [if_pos hb] at q0
    clear iF
    go_enter Tryd.func4, Tryd.ntmps4
    go_wp2_with fail
    rw [HW1.out]
    refine (q0 W1).mono ?_
    rintro e W2 ⟨rfl, b2⟩
    have z2 : W1.heap.size ≤ W2.heap.size := b2.size
    have B2 : Hid (Below w.heap.size w W2) := B1.out.trans (b2.mono B1.out.size)
    have r_a2 : Hid (W2.heap[w.heap.size]? = some (.cells #[.int .i64 h.n, .string h.r] 36 (0, 0))) := rowKeep r_a1.out b2
    have c_a2_0 : W2.cell? ⟨w.heap.size, 0, none⟩ = some (.int .i64 h.n) := row_at r_a2.out 0
    have c_a2_1 : W2.cell? ⟨w.heap.size, 1, none⟩ = some (.string h.r) := row_at r_a2.out 1
    clear r_a1 c_a1_0 c_a1_1
    go_wp2
    go_ret
    exact ⟨rfl, B2.out⟩
  · simp only [if_neg hb] at q0
    have hzn : h.r.size ≤ 1048576 := by omega
    obtain ⟨m1, hm1⟩ : ∃ m1 : Nat, (1048576 : Int) - (h.r.size : Int) = (m1 : Int) := ⟨((1048576 : Int) - (h.r.size : Int)).toNat, by omega⟩
    simp only [hm1] at q0
    have hm1b : m1 ≤ 1048576 := by omega
    have hm1c : ¬ (m1 : Int) < 0 := by omega
    clear hm1
    go_enter Tryd.func4, Tryd.ntmps4
    go_wp2_with fail
    rw [HW1.out]
    refine (q0 W1).mono ?_
    rintro e W2 ⟨rfl, b2⟩
    have z2 : W1.heap.size ≤ W2.heap.size := b2.size
    have B2 : Hid (Below w.heap.size w W2) := B1.out.trans (b2.mono B1.out.size)
    have r_a2 : Hid (W2.heap[w.heap.size]? = some (.cells #[.int .i64 h.n, .string h.r] 36 (0, 0))) := rowKeep r_a1.out b2
    have c_a2_0 : W2.cell? ⟨w.heap.size, 0, none⟩ = some (.int .i64 h.n) := row_at r_a2.out 0
    have c_a2_1 : W2.cell? ⟨w.heap.size, 1, none⟩ = some (.string h.r) := row_at r_a2.out 1
    clear r_a1 c_a1_0 c_a1_1
    go_wp2_with fail
    refine (Strs.sz_any2 W2 _ x m1 (HS.out.later B2.out) (fun s h => by have := hz s h; omega) (by omega) hm1b).mono ?_
    rintro e WX ⟨⟨r9, rfl, hr9⟩, hWX⟩
    subst hWX
    by_cases hr8 : r9 < 0
    · go_wp2
      go_ret
      exact ⟨rfl, B2.out⟩
    have hx1 : x.length + Puts.tot x ≤ 1048576 := by rcases hr9 with h0 | h0; exact absurd h0 hr8; omega
    have hxl : x.length ≤ 1048576 := by omega
    have HXZ : Hid (∀ s ∈ x, s.size ≤ 1048576) := fun s h => Nat.le_trans (mem_tot12 h) (by omega)
    clear hr9 hz q0
    have q1 : ∀ W v1, Sl W v1 (ss x) → _ := fun W v1 h1 => putc_spec W h v1 x h1 (by omega) (by omega) (by omega)
    have q2 : ∀ W v1, Below w.heap.size w W → Sl W v1 (ss x) → _ := fun W v1 hB h1 => iF W v1 hB h1 hzn hxl HXZ.out (by omega)
    have hPl := putC_len h x
    obtain ⟨P, hP⟩ : ∃ P, putC h x = P := ⟨_, rfl⟩
    simp only [hP] at q1 q2 hPl
    have hPb : P.length ≤ 10000000 := by omega
    clear hP iF hPl
    go_wp2_with fail
    refine (to_head W2 h).mono ?_
    rintro e W3 ⟨rfl, b3⟩
    have z3 : W2.heap.size ≤ W3.heap.size := b3.size
    have B3 : Hid (Below w.heap.size w W3) := B2.out.trans (b3.mono B2.out.size)
    have r_a3 : Hid (W3.heap[w.heap.size]? = some (.cells #[.int .i64 h.n, .string h.r] 36 (0, 0))) := rowKeep r_a2.out b3
    have c_a3_0 : W3.cell? ⟨w.heap.size, 0, none⟩ = some (.int .i64 h.n) := row_at r_a3.out 0
    have c_a3_1 : W3.cell? ⟨w.heap.size, 1, none⟩ = some (.string h.r) := row_at r_a3.out 1
    clear r_a2 c_a2_0 c_a2_1
    go_wp2_with fail
    refine (Strs.to_s W3 _ x (HS.out.later B3.out) (by omega)).mono ?_
    rintro e W4 ⟨v_t, rfl, o_t4, b4⟩
    obtain ⟨ao_t, L_t, cap_t, rfl, hL_t, hM_t⟩ := o_t4.form
    have o_t4 : Hid (Own W4 W3.heap.size W4.heap.size 9 (.slice ao_t L_t cap_t) (ss x)) := o_t4
    clear hL_t hM_t
    have z4 : W3.heap.size ≤ W4.heap.size := b4.size
    have B4 : Hid (Below w.heap.size w W4) := B3.out.trans (b4.mono B3.out.size)
    have r_a4 : Hid (W4.heap[w.heap.size]? = some (.cells #[.int .i64 h.n, .string h.r] 36 (0, 0))) := rowKeep r_a3.out b4
    have c_a4_0 : W4.cell? ⟨w.heap.size, 0, none⟩ = some (.int .i64 h.n) := row_at r_a4.out 0
    have c_a4_1 : W4.cell? ⟨w.heap.size, 1, none⟩ = some (.string h.r) := row_at r_a4.out 1
    clear r_a3 c_a3_0 c_a3_1
    go_wp2_with fail
    refine (q1 W4 _ o_t4.out.sl).mono ?_
    rintro e W5 ⟨v_m, rfl, o_m5, b5⟩
    obtain ⟨ao_m, L_m, cap_m, rfl, hL_m, hM_m⟩ := o_m5.form
    have o_m5 : Hid (Own W5 W4.heap.size W5.heap.size 5 (.slice ao_m L_m cap_m) (bs P)) := o_m5
    clear hL_m hM_m
    have z5 : W4.heap.size ≤ W5.heap.size := b5.size
    have B5 : Hid (Below w.heap.size w W5) := B4.out.trans (b5.mono B4.out.size)
    have r_a5 : Hid (W5.heap[w.heap.size]? = some (.cells #[.int .i64 h.n, .string h.r] 36 (0, 0))) := rowKeep r_a4.out b5
    have o_t5 : Hid (Own W5 (W3.heap.size) (W4.heap.size) 9 (.slice ao_t L_t cap_t) (ss x)) := Own.later o_t4.out b5 (by omega)
    have c_a5_0 : W5.cell? ⟨w.heap.size, 0, none⟩ = some (.int .i64 h.n) := row_at r_a5.out 0
    have c_a5_1 : W5.cell? ⟨w.heap.size, 1, none⟩ = some (.string h.r) := row_at r_a5.out 1
    clear r_a4 c_a4_0 c_a4_1 o_t4
    clear o_t5
    go_wp2_with fail
    refine (Strs.to_s W5 _ x (HS.out.later B5.out) (by omega)).mono ?_
    rintro e W6 ⟨v_x, rfl, o_x6, b6⟩
    obtain ⟨ao_x, L_x, cap_x, rfl, hL_x, hM_x⟩ := o_x6.form
    have o_x6 : Hid (Own W6 W5.heap.size W6.heap.size 9 (.slice ao_x L_x cap_x) (ss x)) := o_x6
    clear hL_x hM_x
    have z6 : W5.heap.size ≤ W6.heap.size := b6.size
    have B6 : Hid (Below w.heap.size w W6) := B5.out.trans (b6.mono B5.out.size)
    have r_a6 : Hid (W6.heap[w.heap.size]? = some (.cells #[.int .i64 h.n, .string h.r] 36 (0, 0))) := rowKeep r_a5.out b6
    have o_m6 : Hid (Own W6 (W4.heap.size) (W5.heap.size) 5 (.slice ao_m L_m cap_m) (bs P)) := Own.later o_m5.out b6 (by omega)
    have c_a6_0 : W6.cell? ⟨w.heap.size, 0, none⟩ = some (.int .i64 h.n) := row_at r_a6.out 0
    have c_a6_1 : W6.cell? ⟨w.heap.size, 1, none⟩ = some (.string h.r) := row_at r_a6.out 1
    clear r_a5 c_a5_0 c_a5_1 o_m5
    go_wp2_with fail
    refine (to_head W6 h).mono ?_
    rintro e W7 ⟨rfl, b7⟩
    have z7 : W6.heap.size ≤ W7.heap.size := b7.size
    have B7 : Hid (Below w.heap.size w W7) := B6.out.trans (b7.mono B6.out.size)
    have r_a7 : Hid (W7.heap[w.heap.size]? = some (.cells #[.int .i64 h.n, .string h.r] 36 (0, 0))) := rowKeep r_a6.out b7
    have o_m7 : Hid (Own W7 (W4.heap.size) (W5.heap.size) 5 (.slice ao_m L_m cap_m) (bs P)) := Own.later o_m6.out b7 (by omega)
    have o_x7 : Hid (Own W7 (W5.heap.size) (W6.heap.size) 9 (.slice ao_x L_x cap_x) (ss x)) := Own.later o_x6.out b7 (by omega)
    have c_a7_0 : W7.cell? ⟨w.heap.size, 0, none⟩ = some (.int .i64 h.n) := row_at r_a7.out 0
    have c_a7_1 : W7.cell? ⟨w.heap.size, 1, none⟩ = some (.string h.r) := row_at r_a7.out 1
    clear r_a6 c_a6_0 c_a6_1 o_m6 o_x6
    go_wp2_with fail
    refine (q2 W7 _ B7.out o_x7.out.sl).mono ?_
    rintro e W8 ⟨v_g, rfl, o_g8, b8⟩
    obtain ⟨ao_g, L_g, cap_g, rfl, hL_g, hM_g⟩ := o_g8.form
    have o_g8 : Hid (Own W8 W7.heap.size W8.heap.size 5 (.slice ao_g L_g cap_g) (bs P)) := o_g8
    clear hL_g hM_g
    have z8 : W7.heap.size ≤ W8.heap.size := b8.size
    have B8 : Hid (Below w.heap.size w W8) := B7.out.trans (b8.mono B7.out.size)
    have r_a8 : Hid (W8.heap[w.heap.size]? = some (.cells #[.int .i64 h.n, .string h.r] 36 (0, 0))) := rowKeep r_a7.out b8
    have o_m8 : Hid (Own W8 (W4.heap.size) (W5.heap.size) 5 (.slice ao_m L_m cap_m) (bs P)) := Own.later o_m7.out b8 (by omega)
    have o_x8 : Hid (Own W8 (W5.heap.size) (W6.heap.size) 9 (.slice ao_x L_x cap_x) (ss x)) := Own.later o_x7.out b8 (by omega)
    have c_a8_0 : W8.cell? ⟨w.heap.size, 0, none⟩ = some (.int .i64 h.n) := row_at r_a8.out 0
    have c_a8_1 : W8.cell? ⟨w.heap.size, 1, none⟩ = some (.string h.r) := row_at r_a8.out 1
    clear r_a7 c_a7_0 c_a7_1 o_m7 o_x7
    go_wp2_with fail
    refine (eq_true W8 _ _ P o_g8.out.sl o_m8.out.sl (by omega)).mono ?_
    rintro e W9 ⟨rfl, h9, _⟩
    have b9 : Below W8.heap.size W8 W9 := h9 _
    clear h9
    have z9 : W8.heap.size ≤ W9.heap.size := b9.size
    have B9 : Hid (Below w.heap.size w W9) := B8.out.trans (b9.mono B8.out.size)
    have r_a9 : Hid (W9.heap[w.heap.size]? = some (.cells #[.int .i64 h.n, .string h.r] 36 (0, 0))) := rowKeep r_a8.out b9
    have o_m9 : Hid (Own W9 (W4.heap.size) (W5.heap.size) 5 (.slice ao_m L_m cap_m) (bs P)) := Own.later o_m8.out b9 (by omega)
    have o_x9 : Hid (Own W9 (W5.heap.size) (W6.heap.size) 9 (.slice ao_x L_x cap_x) (ss x)) := Own.later o_x8.out b9 (by omega)
    have o_g9 : Hid (Own W9 (W7.heap.size) (W8.heap.size) 5 (.slice ao_g L_g cap_g) (bs P)) := Own.later o_g8.out b9 (by omega)
    have c_a9_0 : W9.cell? ⟨w.heap.size, 0, none⟩ = some (.int .i64 h.n) := row_at r_a9.out 0
    have c_a9_1 : W9.cell? ⟨w.heap.size, 1, none⟩ = some (.string h.r) := row_at r_a9.out 1
    clear r_a8 c_a8_0 c_a8_1 o_m8 o_x8 o_g8
    go_wp2_with fail
    refine (Strs.to_s W9 _ x (HS.out.later B9.out) (by omega)).mono ?_
    rintro e W10 ⟨v_u, rfl, o_u10, b10⟩
    obtain ⟨ao_u, L_u, cap_u, rfl, hL_u, hM_u⟩ := o_u10.form
    have o_u10 : Hid (Own W10 W9.heap.size W10.heap.size 9 (.slice ao_u L_u cap_u) (ss x)) := o_u10
    clear hL_u hM_u
    have z10 : W9.heap.size ≤ W10.heap.size := b10.size
    have B10 : Hid (Below w.heap.size w W10) := B9.out.trans (b10.mono B9.out.size)
    have r_a10 : Hid (W10.heap[w.heap.size]? = some (.cells #[.int .i64 h.n, .string h.r] 36 (0, 0))) := rowKeep r_a9.out b10
    have o_m10 : Hid (Own W10 (W4.heap.size) (W5.heap.size) 5 (.slice ao_m L_m cap_m) (bs P)) := Own.later o_m9.out b10 (by omega)
    have o_x10 : Hid (Own W10 (W5.heap.size) (W6.heap.size) 9 (.slice ao_x L_x cap_x) (ss x)) := Own.later o_x9.out b10 (by omega)
    have o_g10 : Hid (Own W10 (W7.heap.size) (W8.heap.size) 5 (.slice ao_g L_g cap_g) (bs P)) := Own.later o_g9.out b10 (by omega)
    have c_a10_0 : W10.cell? ⟨w.heap.size, 0, none⟩ = some (.int .i64 h.n) := row_at r_a10.out 0
    have c_a10_1 : W10.cell? ⟨w.heap.size, 1, none⟩ = some (.string h.r) := row_at r_a10.out 1
    clear r_a9 c_a9_0 c_a9_1 o_m9 o_x9 o_g9
    go_wp2_with fail
    refine (Strs.eqs_true W10 _ _ x o_x10.out.sl o_u10.out.sl (by omega)).mono ?_
    rintro e W11 ⟨rfl, h11, _⟩
    have b11 : Below W10.heap.size W10 W11 := h11 _
    clear h11
    have z11 : W10.heap.size ≤ W11.heap.size := b11.size
    have B11 : Hid (Below w.heap.size w W11) := B10.out.trans (b11.mono B10.out.size)
    have r_a11 : Hid (W11.heap[w.heap.size]? = some (.cells #[.int .i64 h.n, .string h.r] 36 (0, 0))) := rowKeep r_a10.out b11
    have o_m11 : Hid (Own W11 (W4.heap.size) (W5.heap.size) 5 (.slice ao_m L_m cap_m) (bs P)) := Own.later o_m10.out b11 (by omega)
    have o_x11 : Hid (Own W11 (W5.heap.size) (W6.heap.size) 9 (.slice ao_x L_x cap_x) (ss x)) := Own.later o_x10.out b11 (by omega)
    have o_g11 : Hid (Own W11 (W7.heap.size) (W8.heap.size) 5 (.slice ao_g L_g cap_g) (bs P)) := Own.later o_g10.out b11 (by omega)
    have o_u11 : Hid (Own W11 (W9.heap.size) (W10.heap.size) 9 (.slice ao_u L_u cap_u) (ss x)) := Own.later o_u10.out b11 (by omega)
    have c_a11_0 : W11.cell? ⟨w.heap.size, 0, none⟩ = some (.int .i64 h.n) := row_at r_a11.out 0
    have c_a11_1 : W11.cell? ⟨w.heap.size, 1, none⟩ = some (.string h.r) := row_at r_a11.out 1
    clear r_a10 c_a10_0 c_a10_1 o_m10 o_x10 o_g10 o_u10
    clear o_u11
    have dk : ¬ ((1 + x.length : Nat) : Int) < 0 := by omega
    go_wp2_with fail
    refine (Strs.marks_any W11 _ (W5.heap.size) (W6.heap.size) x 1 o_x11.out (by omega) (by omega) (by omega) (by omega)).mono ?_
    rintro e W12 ⟨rfl, o_x12, p12⟩
    have o_x12 : Hid (Own W12 (W5.heap.size) (W6.heap.size) 9 (.slice ao_x L_x cap_x) (ss (Strs.mts 1 x.length))) := o_x12
    have z12 : W11.heap.size ≤ W12.heap.size := p12.size
    have B12 : Hid (Below w.heap.size w W12) := B11.out.trans (p12.below (by have := B11.out.size; omega) B11.out.size)
    have r_a12 : Hid (W12.heap[w.heap.size]? = some (.cells #[.int .i64 h.n, .string h.r] 36 (0, 0))) := (p12.block (w.heap.size) (by omega) (by omega)).trans r_a11.out
    have o_m12 : Hid (Own W12 (W4.heap.size) (W5.heap.size) 5 (.slice ao_m L_m cap_m) (bs P)) := Own.apart o_m11.out p12 (by omega) (by omega)
    have o_g12 : Hid (Own W12 (W7.heap.size) (W8.heap.size) 5 (.slice ao_g L_g cap_g) (bs P)) := Own.apart o_g11.out p12 (by omega) (by omega)
    have c_a12_0 : W12.cell? ⟨w.heap.size, 0, none⟩ = some (.int .i64 h.n) := row_at r_a12.out 0
    have c_a12_1 : W12.cell? ⟨w.heap.size, 1, none⟩ = some (.string h.r) := row_at r_a12.out 1
    clear r_a11 c_a11_0 c_a11_1 o_m11 o_x11 o_g11
    clear o_x12
    go_wp2_with fail
    refine (eq_true W12 _ _ P o_g12.out.sl o_m12.out.sl (by omega)).mono ?_
    rintro e W13 ⟨rfl, h13, _⟩
    have b13 : Below W12.heap.size W12 W13 := h13 _
    clear h13
    have z13 : W12.heap.size ≤ W13.heap.size := b13.size
    have B13 : Hid (Below w.heap.size w W13) := B12.out.trans (b13.mono B12.out.size)
    have r_a13 : Hid (W13.heap[w.heap.size]? = some (.cells #[.int .i64 h.n, .string h.r] 36 (0, 0))) := rowKeep r_a12.out b13
    have o_m13 : Hid (Own W13 (W4.heap.size) (W5.heap.size) 5 (.slice ao_m L_m cap_m) (bs P)) := Own.later o_m12.out b13 (by omega)
    have o_g13 : Hid (Own W13 (W7.heap.size) (W8.heap.size) 5 (.slice ao_g L_g cap_g) (bs P)) := Own.later o_g12.out b13 (by omega)
    have c_a13_0 : W13.cell? ⟨w.heap.size, 0, none⟩ = some (.int .i64 h.n) := row_at r_a13.out 0
    have c_a13_1 : W13.cell? ⟨w.heap.size, 1, none⟩ = some (.string h.r) := row_at r_a13.out 1
    clear r_a12 c_a12_0 c_a12_1 o_m12 o_g12
    go_wp2_with fail
    refine (mark_bytes W13 _ (W7.heap.size) (W8.heap.size) P 1 o_g13.out (by omega) (by omega)).mono ?_
    rintro e W14 ⟨rfl, o_g14, p14⟩
    have o_g14 : Hid (Own W14 (W7.heap.size) (W8.heap.size) 5 (.slice ao_g L_g cap_g) (bs (marks 1 P.length))) := o_g14
    have z14 : W13.heap.size ≤ W14.heap.size := p14.size
    have B14 : Hid (Below w.heap.size w W14) := B13.out.trans (p14.below (by have := B13.out.size; omega) B13.out.size)
    have r_a14 : Hid (W14.heap[w.heap.size]? = some (.cells #[.int .i64 h.n, .string h.r] 36 (0, 0))) := (p14.block (w.heap.size) (by omega) (by omega)).trans r_a13.out
    have o_m14 : Hid (Own W14 (W4.heap.size) (W5.heap.size) 5 (.slice ao_m L_m cap_m) (bs P)) := Own.apart o_m13.out p14 (by omega) (by omega)
    have c_a14_0 : W14.cell? ⟨w.heap.size, 0, none⟩ = some (.int .i64 h.n) := row_at r_a14.out 0
    have c_a14_1 : W14.cell? ⟨w.heap.size, 1, none⟩ = some (.string h.r) := row_at r_a14.out 1
    clear r_a13 c_a13_0 c_a13_1 o_m13 o_g13
    have dk2 : ¬ ((1 + P.length : Nat) : Int) < 0 := by omega
    go_wp2_with fail
    refine (held_any W14 _ P.length 1 o_g14.out.sl (by omega) (by omega)).mono ?_
    rintro e W_ ⟨rfl, hW_⟩
    have hW_ := hW_.symm
    subst hW_
    go_wp2_with fail
    refine (to_head W14 h).mono ?_
    rintro e W15 ⟨rfl, b15⟩
    have z15 : W14.heap.size ≤ W15.heap.size := b15.size
    have B15 : Hid (Below w.heap.size w W15) := B14.out.trans (b15.mono B14.out.size)
    have r_a15 : Hid (W15.heap[w.heap.size]? = some (.cells #[.int .i64 h.n, .string h.r] 36 (0, 0))) := rowKeep r_a14.out b15
    have o_m15 : Hid (Own W15 (W4.heap.size) (W5.heap.size) 5 (.slice ao_m L_m cap_m) (bs P)) := Own.later o_m14.out b15 (by omega)
    have o_g15 : Hid (Own W15 (W7.heap.size) (W8.heap.size) 5 (.slice ao_g L_g cap_g) (bs (marks 1 P.length))) := Own.later o_g14.out b15 (by omega)
    have c_a15_0 : W15.cell? ⟨w.heap.size, 0, none⟩ = some (.int .i64 h.n) := row_at r_a15.out 0
    have c_a15_1 : W15.cell? ⟨w.heap.size, 1, none⟩ = some (.string h.r) := row_at r_a15.out 1
    clear r_a14 c_a14_0 c_a14_1 o_m14 o_g14
    go_wp2_with fail
    refine (Strs.to_s W15 _ x (HS.out.later B15.out) (by omega)).mono ?_
    rintro e W16 ⟨v_y, rfl, o_y16, b16⟩
    obtain ⟨ao_y, L_y, cap_y, rfl, hL_y, hM_y⟩ := o_y16.form
    have o_y16 : Hid (Own W16 W15.heap.size W16.heap.size 9 (.slice ao_y L_y cap_y) (ss x)) := o_y16
    clear hL_y hM_y
    have z16 : W15.heap.size ≤ W16.heap.size := b16.size
    have B16 : Hid (Below w.heap.size w W16) := B15.out.trans (b16.mono B15.out.size)
    have r_a16 : Hid (W16.heap[w.heap.size]? = some (.cells #[.int .i64 h.n, .string h.r] 36 (0, 0))) := rowKeep r_a15.out b16
    have o_m16 : Hid (Own W16 (W4.heap.size) (W5.heap.size) 5 (.slice ao_m L_m cap_m) (bs P)) := Own.later o_m15.out b16 (by omega)
    have o_g16 : Hid (Own W16 (W7.heap.size) (W8.heap.size) 5 (.slice ao_g L_g cap_g) (bs (marks 1 P.length))) := Own.later o_g15.out b16 (by omega)
    have c_a16_0 : W16.cell? ⟨w.heap.size, 0, none⟩ = some (.int .i64 h.n) := row_at r_a16.out 0
    have c_a16_1 : W16.cell? ⟨w.heap.size, 1, none⟩ = some (.string h.r) := row_at r_a16.out 1
    clear r_a15 c_a15_0 c_a15_1 o_m15 o_g15
    go_wp2_with fail
    refine (q2 W16 _ B16.out o_y16.out.sl).mono ?_
    rintro e W17 ⟨v_h, rfl, o_h17, b17⟩
    obtain ⟨ao_h, L_h, cap_h, rfl, hL_h, hM_h⟩ := o_h17.form
    have o_h17 : Hid (Own W17 W16.heap.size W17.heap.size 5 (.slice ao_h L_h cap_h) (bs P)) := o_h17
    clear hL_h hM_h
    have z17 : W16.heap.size ≤ W17.heap.size := b17.size
    have B17 : Hid (Below w.heap.size w W17) := B16.out.trans (b17.mono B16.out.size)
    have r_a17 : Hid (W17.heap[w.heap.size]? = some (.cells #[.int .i64 h.n, .string h.r] 36 (0, 0))) := rowKeep r_a16.out b17
    have o_m17 : Hid (Own W17 (W4.heap.size) (W5.heap.size) 5 (.slice ao_m L_m cap_m) (bs P)) := Own.later o_m16.out b17 (by omega)
    have o_g17 : Hid (Own W17 (W7.heap.size) (W8.heap.size) 5 (.slice ao_g L_g cap_g) (bs (marks 1 P.length))) := Own.later o_g16.out b17 (by omega)
    have o_y17 : Hid (Own W17 (W15.heap.size) (W16.heap.size) 9 (.slice ao_y L_y cap_y) (ss x)) := Own.later o_y16.out b17 (by omega)
    have c_a17_0 : W17.cell? ⟨w.heap.size, 0, none⟩ = some (.int .i64 h.n) := row_at r_a17.out 0
    have c_a17_1 : W17.cell? ⟨w.heap.size, 1, none⟩ = some (.string h.r) := row_at r_a17.out 1
    clear r_a16 c_a16_0 c_a16_1 o_m16 o_g16 o_y16
    clear o_y17
    go_wp2_with fail
    refine (eq_true W17 _ _ P o_h17.out.sl o_m17.out.sl (by omega)).mono ?_
    rintro e W18 ⟨rfl, h18, _⟩
    have b18 : Below W17.heap.size W17 W18 := h18 _
    clear h18
    have z18 : W17.heap.size ≤ W18.heap.size := b18.size
    have B18 : Hid (Below w.heap.size w W18) := B17.out.trans (b18.mono B17.out.size)
    have r_a18 : Hid (W18.heap[w.heap.size]? = some (.cells #[.int .i64 h.n, .string h.r] 36 (0, 0))) := rowKeep r_a17.out b18
    have o_m18 : Hid (Own W18 (W4.heap.size) (W5.heap.size) 5 (.slice ao_m L_m cap_m) (bs P)) := Own.later o_m17.out b18 (by omega)
    have o_g18 : Hid (Own W18 (W7.heap.size) (W8.heap.size) 5 (.slice ao_g L_g cap_g) (bs (marks 1 P.length))) := Own.later o_g17.out b18 (by omega)
    have o_h18 : Hid (Own W18 (W16.heap.size) (W17.heap.size) 5 (.slice ao_h L_h cap_h) (bs P)) := Own.later o_h17.out b18 (by omega)
    have c_a18_0 : W18.cell? ⟨w.heap.size, 0, none⟩ = some (.int .i64 h.n) := row_at r_a18.out 0
    have c_a18_1 : W18.cell? ⟨w.heap.size, 1, none⟩ = some (.string h.r) := row_at r_a18.out 1
    clear r_a17 c_a17_0 c_a17_1 o_m17 o_g17 o_h17
    go_wp2_with fail
    refine (held_any W18 _ P.length 1 o_g18.out.sl (by omega) (by omega)).mono ?_
    rintro e W_ ⟨rfl, hW_⟩
    have hW_ := hW_.symm
    subst hW_
    go_wp2
    go_ret
    exact ⟨rfl, B18.out⟩

theorem getC_len12 (xs : List Int) (a : Int) : (getC xs a).2.1.length ≤ 200 := by
  unfold getC
  split
  · split
    · rename_i h x hi
      split
      · unfold inBody at hi
        split at hi
        · simp only [Option.some.injEq, Prod.mk.injEq] at hi
          rw [← hi.2]
          exact Plain.getTexts_len _ _
        · cases hi
      · exact Nat.zero_le _
    · exact Nat.zero_le _
  · exact Nat.zero_le _

set_option maxRecDepth 1000000 in
set_option maxHeartbeats 16000000 in
theorem exact_getcommit (w : World) (vb : Value) (b : List Int) (hb : Sl w vb (bs b)) (hby : Byt b) (hmb : b.length ≤ maxLen) (a : Int) (hlo : -9223372036854775808 ≤ a) (hhi : a ≤ 9223372036854775807)
    (iF : ∀ W v', Below w.heap.size w W → Sl W v' (bs b) → b.length ≤ 1048576 → Calls Tryd.prog 10 #[v', .int .i64 a] W fun e w' => GotC b a W e w') :
    Calls Tryd.prog 5 #[vb, .int .i64 a] w fun e w' => e = .returned (.bool true) ∧ Below w.heap.size w w' := by
  have HSB : Hid (Sl w vb (bs b)) := hb
  have HBY : Hid (Byt b) := hby
  unfold maxLen at *
  obtain ⟨ao1, cap1, rfl, hc1⟩ := hb.form
  simp only [bs_len] at *
  clear hb hby
  have B0 : Hid (Below w.heap.size w w) := Below.refl _ _
  by_cases hbig : 1048576 < b.length
  · have d1 : (1048576 : Int) < (b.length : Int) := by omega
    clear iF
    go_enter Tryd.func5, Tryd.ntmps5
    go_wp2
    go_ret
    exact ⟨rfl, Below.refl _ _⟩
  have d1 : ¬ (1048576 : Int) < (b.length : Int) := by omega
  have hbl : b.length ≤ 1048576 := by omega
  have q1 : ∀ W v1, Sl W v1 (bs b) → _ := fun W v1 h1 => get_spec W v1 b a h1 HBY.out (by omega) hlo hhi
  have q2 : ∀ W v1, Below w.heap.size w W → Sl W v1 (bs b) → _ := fun W v1 hB h1 => iF W v1 hB h1 hbl
  have hx2 := getC_len12 b a
  obtain ⟨h, x, p, ok, hg⟩ : ∃ h x p ok, getC b a = (h, x, p, ok) := ⟨_, _, _, _, rfl⟩
  unfold GotC at q1 q2
  simp only [hg] at q1 q2 hx2
  clear hg iF
  have np : (p != p) = false := by simp
  have nq : (p == p) = true := by simp
  have nk : (ok != ok) = false := by simp
  have nl : (ok == ok) = true := by simp
  go_enter Tryd.func5, Tryd.ntmps5
  go_wp2_with fail
  refine (to_any w _ b (HSB.out.later B0.out) (by omega)).mono ?_
  rintro e W1 ⟨v_t, rfl, o_t1, b1⟩
  obtain ⟨ao_t, L_t, cap_t, rfl, hL_t, hM_t⟩ := o_t1.form
  have o_t1 : Hid (Own W1 w.heap.size W1.heap.size 5 (.slice ao_t L_t cap_t) (bs b)) := o_t1
  clear hL_t hM_t
  have z1 : w.heap.size ≤ W1.heap.size := b1.size
  have B1 : Hid (Below w.heap.size w W1) := B0.out.trans (b1.mono B0.out.size)
  go_wp2_with fail
  refine (q1 W1 _ o_t1.out.sl).mono ?_
  rintro e W2 ⟨v_m, rfl, o_m2, b2⟩
  obtain ⟨ao_m, L_m, cap_m, rfl, hL_m, hM_m⟩ := o_m2.form
  have o_m2 : Hid (Own W2 W1.heap.size W2.heap.size 9 (.slice ao_m L_m cap_m) (ss x)) := o_m2
  clear hL_m hM_m
  have z2 : W1.heap.size ≤ W2.heap.size := b2.size
  have B2 : Hid (Below w.heap.size w W2) := B1.out.trans (b2.mono B1.out.size)
  have o_t2 : Hid (Own W2 (w.heap.size) (W1.heap.size) 5 (.slice ao_t L_t cap_t) (bs b)) := Own.later o_t1.out b2 (by omega)
  clear o_t1
  clear o_t2
  obtain ⟨W3, HW3, b3, y3, hS3, r_w03⟩ : ∃ X, Hid ((W2.alloc (.cells #[.int .i64 h.n, .string h.r] 25)) = X) ∧ Below W2.heap.size W2 X ∧ W2.heap.size + 1 ≤ X.heap.size ∧ Hid (X.heap.size = W2.heap.size + 1) ∧ Hid (X.heap[W2.heap.size]? = some (.cells #[.int .i64 h.n, .string h.r] 25 (0, 0))) := ⟨_, rfl, ((Below.refl _ _).alloc (Nat.le_refl _) _), by simp, by show _ = _; simp, (by show _ = _; exact alloc_nth1_0 W2 _)⟩
  have z3 : W2.heap.size ≤ W3.heap.size := b3.size
  have B3 : Hid (Below w.heap.size w W3) := B2.out.trans (b3.mono B2.out.size)
  have o_m3 : Hid (Own W3 (W1.heap.size) (W2.heap.size) 9 (.slice ao_m L_m cap_m) (ss x)) := Own.later o_m2.out b3 (by omega)
  have c_w03_0 : W3.cell? ⟨W2.heap.size, 0, none⟩ = some (.int .i64 h.n) := row_at r_w03.out 0
  have c_w03_1 : W3.cell? ⟨W2.heap.size, 1, none⟩ = some (.string h.r) := row_at r_w03.out 1
  clear o_m2
  go_wp2_with fail
  rw [HW3.out]
  refine (to_any W3 _ b (HSB.out.later B3.out) (by omega)).mono ?_
  rintro e W4 ⟨v_x, rfl, o_x4, b4⟩
  obtain ⟨ao_x, L_x, cap_x, rfl, hL_x, hM_x⟩ := o_x4.form
  have o_x4 : Hid (Own W4 W3.heap.size W4.heap.size 5 (.slice ao_x L_x cap_x) (bs b)) := o_x4
  clear hL_x hM_x
  have z4 : W3.heap.size ≤ W4.heap.size := b4.size
  have B4 : Hid (Below w.heap.size w W4) := B3.out.trans (b4.mono B3.out.size)
  have r_w04 : Hid (W4.heap[W2.heap.size]? = some (.cells #[.int .i64 h.n, .string h.r] 25 (0, 0))) := rowKeep r_w03.out b4
  have o_m4 : Hid (Own W4 (W1.heap.size) (W2.heap.size) 9 (.slice ao_m L_m cap_m) (ss x)) := Own.later o_m3.out b4 (by omega)
  have c_w04_0 : W4.cell? ⟨W2.heap.size, 0, none⟩ = some (.int .i64 h.n) := row_at r_w04.out 0
  have c_w04_1 : W4.cell? ⟨W2.heap.size, 1, none⟩ = some (.string h.r) := row_at r_w04.out 1
  clear r_w03 c_w03_0 c_w03_1 o_m3
  go_wp2_with fail
  refine (q2 W4 _ B4.out o_x4.out.sl).mono ?_
  rintro e W5 ⟨v_g, rfl, o_g5, b5⟩
  obtain ⟨ao_g, L_g, cap_g, rfl, hL_g, hM_g⟩ := o_g5.form
  have o_g5 : Hid (Own W5 W4.heap.size W5.heap.size 9 (.slice ao_g L_g cap_g) (ss x)) := o_g5
  clear hL_g hM_g
  have z5 : W4.heap.size ≤ W5.heap.size := b5.size
  have B5 : Hid (Below w.heap.size w W5) := B4.out.trans (b5.mono B4.out.size)
  have r_w05 : Hid (W5.heap[W2.heap.size]? = some (.cells #[.int .i64 h.n, .string h.r] 25 (0, 0))) := rowKeep r_w04.out b5
  have o_m5 : Hid (Own W5 (W1.heap.size) (W2.heap.size) 9 (.slice ao_m L_m cap_m) (ss x)) := Own.later o_m4.out b5 (by omega)
  have o_x5 : Hid (Own W5 (W3.heap.size) (W4.heap.size) 5 (.slice ao_x L_x cap_x) (bs b)) := Own.later o_x4.out b5 (by omega)
  have c_w05_0 : W5.cell? ⟨W2.heap.size, 0, none⟩ = some (.int .i64 h.n) := row_at r_w05.out 0
  have c_w05_1 : W5.cell? ⟨W2.heap.size, 1, none⟩ = some (.string h.r) := row_at r_w05.out 1
  clear r_w04 c_w04_0 c_w04_1 o_m4 o_x4
  have a_w05_0 : ∀ o, (W5.alloc o).cell? ⟨W2.heap.size, 0, none⟩ = some (.int .i64 h.n) := fun o => keepR c_w05_0 ((Below.refl _ _).alloc (Nat.le_refl _) o)
  have a_w05_1 : ∀ o, (W5.alloc o).cell? ⟨W2.heap.size, 1, none⟩ = some (.string h.r) := fun o => keepR c_w05_1 ((Below.refl _ _).alloc (Nat.le_refl _) o)
  obtain ⟨W6, HW6, b6, y6, hS6, r_g06⟩ : ∃ X, Hid ((W5.alloc (.cells #[.int .i64 h.n, .string h.r] 25)) = X) ∧ Below W5.heap.size W5 X ∧ W5.heap.size + 1 ≤ X.heap.size ∧ Hid (X.heap.size = W5.heap.size + 1) ∧ Hid (X.heap[W5.heap.size]? = some (.cells #[.int .i64 h.n, .string h.r] 25 (0, 0))) := ⟨_, rfl, ((Below.refl _ _).alloc (Nat.le_refl _) _), by simp, by show _ = _; simp, (by show _ = _; exact alloc_nth1_0 W5 _)⟩
  have z6 : W5.heap.size ≤ W6.heap.size := b6.size
  have B6 : Hid (Below w.heap.size w W6) := B5.out.trans (b6.mono B5.out.size)
  have r_w06 : Hid (W6.heap[W2.heap.size]? = some (.cells #[.int .i64 h.n, .string h.r] 25 (0, 0))) := rowKeep r_w05.out b6
  have o_m6 : Hid (Own W6 (W1.heap.size) (W2.heap.size) 9 (.slice ao_m L_m cap_m) (ss x)) := Own.later o_m5.out b6 (by omega)
  have o_x6 : Hid (Own W6 (W3.heap.size) (W4.heap.size) 5 (.slice ao_x L_x cap_x) (bs b)) := Own.later o_x5.out b6 (by omega)
  have o_g6 : Hid (Own W6 (W4.heap.size) (W5.heap.size) 9 (.slice ao_g L_g cap_g) (ss x)) := Own.later o_g5.out b6 (by omega)
  have c_w06_0 : W6.cell? ⟨W2.heap.size, 0, none⟩ = some (.int .i64 h.n) := row_at r_w06.out 0
  have c_w06_1 : W6.cell? ⟨W2.heap.size, 1, none⟩ = some (.string h.r) := row_at r_w06.out 1
  have c_g06_0 : W6.cell? ⟨W5.heap.size, 0, none⟩ = some (.int .i64 h.n) := row_at r_g06.out 0
  have c_g06_1 : W6.cell? ⟨W5.heap.size, 1, none⟩ = some (.string h.r) := row_at r_g06.out 1
  clear r_w05 c_w05_0 c_w05_1 o_m5 o_x5 o_g5
  go_wp2_with fail
  rw [HW6.out]
  clear a_w05_0 a_w05_1
  refine (eq_head W6 h).mono ?_
  rintro e W7 ⟨rfl, b7⟩
  have z7 : W6.heap.size ≤ W7.heap.size := b7.size
  have B7 : Hid (Below w.heap.size w W7) := B6.out.trans (b7.mono B6.out.size)
  have r_w07 : Hid (W7.heap[W2.heap.size]? = some (.cells #[.int .i64 h.n, .string h.r] 25 (0, 0))) := rowKeep r_w06.out b7
  have r_g07 : Hid (W7.heap[W5.heap.size]? = some (.cells #[.int .i64 h.n, .string h.r] 25 (0, 0))) := rowKeep r_g06.out b7
  have o_m7 : Hid (Own W7 (W1.heap.size) (W2.heap.size) 9 (.slice ao_m L_m cap_m) (ss x)) := Own.later o_m6.out b7 (by omega)
  have o_x7 : Hid (Own W7 (W3.heap.size) (W4.heap.size) 5 (.slice ao_x L_x cap_x) (bs b)) := Own.later o_x6.out b7 (by omega)
  have o_g7 : Hid (Own W7 (W4.heap.size) (W5.heap.size) 9 (.slice ao_g L_g cap_g) (ss x)) := Own.later o_g6.out b7 (by omega)
  have c_w07_0 : W7.cell? ⟨W2.heap.size, 0, none⟩ = some (.int .i64 h.n) := row_at r_w07.out 0
  have c_w07_1 : W7.cell? ⟨W2.heap.size, 1, none⟩ = some (.string h.r) := row_at r_w07.out 1
  have c_g07_0 : W7.cell? ⟨W5.heap.size, 0, none⟩ = some (.int .i64 h.n) := row_at r_g07.out 0
  have c_g07_1 : W7.cell? ⟨W5.heap.size, 1, none⟩ = some (.string h.r) := row_at r_g07.out 1
  clear r_w06 c_w06_0 c_w06_1 r_g06 c_g06_0 c_g06_1 o_m6 o_x6 o_g6
  go_wp2_with fail
  refine (Strs.eqs_true W7 _ _ x o_g7.out.sl o_m7.out.sl (by omega)).mono ?_
  rintro e W8 ⟨rfl, h8, _⟩
  have b8 : Below W7.heap.size W7 W8 := h8 _
  clear h8
  have z8 : W7.heap.size ≤ W8.heap.size := b8.size
  have B8 : Hid (Below w.heap.size w W8) := B7.out.trans (b8.mono B7.out.size)
  have r_w08 : Hid (W8.heap[W2.heap.size]? = some (.cells #[.int .i64 h.n, .string h.r] 25 (0, 0))) := rowKeep r_w07.out b8
  have r_g08 : Hid (W8.heap[W5.heap.size]? = some (.cells #[.int .i64 h.n, .string h.r] 25 (0, 0))) := rowKeep r_g07.out b8
  have o_m8 : Hid (Own W8 (W1.heap.size) (W2.heap.size) 9 (.slice ao_m L_m cap_m) (ss x)) := Own.later o_m7.out b8 (by omega)
  have o_x8 : Hid (Own W8 (W3.heap.size) (W4.heap.size) 5 (.slice ao_x L_x cap_x) (bs b)) := Own.later o_x7.out b8 (by omega)
  have o_g8 : Hid (Own W8 (W4.heap.size) (W5.heap.size) 9 (.slice ao_g L_g cap_g) (ss x)) := Own.later o_g7.out b8 (by omega)
  have c_w08_0 : W8.cell? ⟨W2.heap.size, 0, none⟩ = some (.int .i64 h.n) := row_at r_w08.out 0
  have c_w08_1 : W8.cell? ⟨W2.heap.size, 1, none⟩ = some (.string h.r) := row_at r_w08.out 1
  have c_g08_0 : W8.cell? ⟨W5.heap.size, 0, none⟩ = some (.int .i64 h.n) := row_at r_g08.out 0
  have c_g08_1 : W8.cell? ⟨W5.heap.size, 1, none⟩ = some (.string h.r) := row_at r_g08.out 1
  clear r_w07 c_w07_0 c_w07_1 r_g07 c_g07_0 c_g07_1 o_m7 o_x7 o_g7
  go_wp2_with fail
  refine (to_any W8 _ b (HSB.out.later B8.out) (by omega)).mono ?_
  rintro e W9 ⟨v_u, rfl, o_u9, b9⟩
  obtain ⟨ao_u, L_u, cap_u, rfl, hL_u, hM_u⟩ := o_u9.form
  have o_u9 : Hid (Own W9 W8.heap.size W9.heap.size 5 (.slice ao_u L_u cap_u) (bs b)) := o_u9
  clear hL_u hM_u
  have z9 : W8.heap.size ≤ W9.heap.size := b9.size
  have B9 : Hid (Below w.heap.size w W9) := B8.out.trans (b9.mono B8.out.size)
  have r_w09 : Hid (W9.heap[W2.heap.size]? = some (.cells #[.int .i64 h.n, .string h.r] 25 (0, 0))) := rowKeep r_w08.out b9
  have r_g09 : Hid (W9.heap[W5.heap.size]? = some (.cells #[.int .i64 h.n, .string h.r] 25 (0, 0))) := rowKeep r_g08.out b9
  have o_m9 : Hid (Own W9 (W1.heap.size) (W2.heap.size) 9 (.slice ao_m L_m cap_m) (ss x)) := Own.later o_m8.out b9 (by omega)
  have o_x9 : Hid (Own W9 (W3.heap.size) (W4.heap.size) 5 (.slice ao_x L_x cap_x) (bs b)) := Own.later o_x8.out b9 (by omega)
  have o_g9 : Hid (Own W9 (W4.heap.size) (W5.heap.size) 9 (.slice ao_g L_g cap_g) (ss x)) := Own.later o_g8.out b9 (by omega)
  have c_w09_0 : W9.cell? ⟨W2.heap.size, 0, none⟩ = some (.int .i64 h.n) := row_at r_w09.out 0
  have c_w09_1 : W9.cell? ⟨W2.heap.size, 1, none⟩ = some (.string h.r) := row_at r_w09.out 1
  have c_g09_0 : W9.cell? ⟨W5.heap.size, 0, none⟩ = some (.int .i64 h.n) := row_at r_g09.out 0
  have c_g09_1 : W9.cell? ⟨W5.heap.size, 1, none⟩ = some (.string h.r) := row_at r_g09.out 1
  clear r_w08 c_w08_0 c_w08_1 r_g08 c_g08_0 c_g08_1 o_m8 o_x8 o_g8
  go_wp2_with fail
  refine (eq_true W9 _ _ b o_x9.out.sl o_u9.out.sl (by omega)).mono ?_
  rintro e W10 ⟨rfl, h10, _⟩
  have b10 : Below W9.heap.size W9 W10 := h10 _
  clear h10
  have z10 : W9.heap.size ≤ W10.heap.size := b10.size
  have B10 : Hid (Below w.heap.size w W10) := B9.out.trans (b10.mono B9.out.size)
  have r_w010 : Hid (W10.heap[W2.heap.size]? = some (.cells #[.int .i64 h.n, .string h.r] 25 (0, 0))) := rowKeep r_w09.out b10
  have r_g010 : Hid (W10.heap[W5.heap.size]? = some (.cells #[.int .i64 h.n, .string h.r] 25 (0, 0))) := rowKeep r_g09.out b10
  have o_m10 : Hid (Own W10 (W1.heap.size) (W2.heap.size) 9 (.slice ao_m L_m cap_m) (ss x)) := Own.later o_m9.out b10 (by omega)
  have o_x10 : Hid (Own W10 (W3.heap.size) (W4.heap.size) 5 (.slice ao_x L_x cap_x) (bs b)) := Own.later o_x9.out b10 (by omega)
  have o_g10 : Hid (Own W10 (W4.heap.size) (W5.heap.size) 9 (.slice ao_g L_g cap_g) (ss x)) := Own.later o_g9.out b10 (by omega)
  have o_u10 : Hid (Own W10 (W8.heap.size) (W9.heap.size) 5 (.slice ao_u L_u cap_u) (bs b)) := Own.later o_u9.out b10 (by omega)
  have c_w010_0 : W10.cell? ⟨W2.heap.size, 0, none⟩ = some (.int .i64 h.n) := row_at r_w010.out 0
  have c_w010_1 : W10.cell? ⟨W2.heap.size, 1, none⟩ = some (.string h.r) := row_at r_w010.out 1
  have c_g010_0 : W10.cell? ⟨W5.heap.size, 0, none⟩ = some (.int .i64 h.n) := row_at r_g010.out 0
  have c_g010_1 : W10.cell? ⟨W5.heap.size, 1, none⟩ = some (.string h.r) := row_at r_g010.out 1
  clear r_w09 c_w09_0 c_w09_1 r_g09 c_g09_0 c_g09_1 o_m9 o_x9 o_g9 o_u9
  clear o_u10
  have dk : ¬ ((1 + b.length : Nat) : Int) < 0 := by omega
  go_wp2_with fail
  refine (mark_bytes W10 _ (W3.heap.size) (W4.heap.size) b 1 o_x10.out (by omega) (by omega)).mono ?_
  rintro e W11 ⟨rfl, o_x11, p11⟩
  have o_x11 : Hid (Own W11 (W3.heap.size) (W4.heap.size) 5 (.slice ao_x L_x cap_x) (bs (marks 1 b.length))) := o_x11
  have z11 : W10.heap.size ≤ W11.heap.size := p11.size
  have B11 : Hid (Below w.heap.size w W11) := B10.out.trans (p11.below (by have := B10.out.size; omega) B10.out.size)
  have r_w011 : Hid (W11.heap[W2.heap.size]? = some (.cells #[.int .i64 h.n, .string h.r] 25 (0, 0))) := (p11.block (W2.heap.size) (by omega) (by omega)).trans r_w010.out
  have r_g011 : Hid (W11.heap[W5.heap.size]? = some (.cells #[.int .i64 h.n, .string h.r] 25 (0, 0))) := (p11.block (W5.heap.size) (by omega) (by omega)).trans r_g010.out
  have o_m11 : Hid (Own W11 (W1.heap.size) (W2.heap.size) 9 (.slice ao_m L_m cap_m) (ss x)) := Own.apart o_m10.out p11 (by omega) (by omega)
  have o_g11 : Hid (Own W11 (W4.heap.size) (W5.heap.size) 9 (.slice ao_g L_g cap_g) (ss x)) := Own.apart o_g10.out p11 (by omega) (by omega)
  have c_w011_0 : W11.cell? ⟨W2.heap.size, 0, none⟩ = some (.int .i64 h.n) := row_at r_w011.out 0
  have c_w011_1 : W11.cell? ⟨W2.heap.size, 1, none⟩ = some (.string h.r) := row_at r_w011.out 1
  have c_g011_0 : W11.cell? ⟨W5.heap.size, 0, none⟩ = some (.int .i64 h.n) := row_at r_g011.out 0
  have c_g011_1 : W11.cell? ⟨W5.heap.size, 1, none⟩ = some (.string h.r) := row_at r_g011.out 1
  clear r_w010 c_w010_0 c_w010_1 r_g010 c_g010_0 c_g010_1 o_m10 o_x10 o_g10
  clear o_x11
  go_wp2_with fail
  refine (eq_head W11 h).mono ?_
  rintro e W12 ⟨rfl, b12⟩
  have z12 : W11.heap.size ≤ W12.heap.size := b12.size
  have B12 : Hid (Below w.heap.size w W12) := B11.out.trans (b12.mono B11.out.size)
  have r_w012 : Hid (W12.heap[W2.heap.size]? = some (.cells #[.int .i64 h.n, .string h.r] 25 (0, 0))) := rowKeep r_w011.out b12
  have r_g012 : Hid (W12.heap[W5.heap.size]? = some (.cells #[.int .i64 h.n, .string h.r] 25 (0, 0))) := rowKeep r_g011.out b12
  have o_m12 : Hid (Own W12 (W1.heap.size) (W2.heap.size) 9 (.slice ao_m L_m cap_m) (ss x)) := Own.later o_m11.out b12 (by omega)
  have o_g12 : Hid (Own W12 (W4.heap.size) (W5.heap.size) 9 (.slice ao_g L_g cap_g) (ss x)) := Own.later o_g11.out b12 (by omega)
  have c_w012_0 : W12.cell? ⟨W2.heap.size, 0, none⟩ = some (.int .i64 h.n) := row_at r_w012.out 0
  have c_w012_1 : W12.cell? ⟨W2.heap.size, 1, none⟩ = some (.string h.r) := row_at r_w012.out 1
  have c_g012_0 : W12.cell? ⟨W5.heap.size, 0, none⟩ = some (.int .i64 h.n) := row_at r_g012.out 0
  have c_g012_1 : W12.cell? ⟨W5.heap.size, 1, none⟩ = some (.string h.r) := row_at r_g012.out 1
  clear r_w011 c_w011_0 c_w011_1 r_g011 c_g011_0 c_g011_1 o_m11 o_g11
  go_wp2_with fail
  refine (Strs.eqs_true W12 _ _ x o_g12.out.sl o_m12.out.sl (by omega)).mono ?_
  rintro e W13 ⟨rfl, h13, _⟩
  have b13 : Below W12.heap.size W12 W13 := h13 _
  clear h13
  have z13 : W12.heap.size ≤ W13.heap.size := b13.size
  have B13 : Hid (Below w.heap.size w W13) := B12.out.trans (b13.mono B12.out.size)
  have r_w013 : Hid (W13.heap[W2.heap.size]? = some (.cells #[.int .i64 h.n, .string h.r] 25 (0, 0))) := rowKeep r_w012.out b13
  have r_g013 : Hid (W13.heap[W5.heap.size]? = some (.cells #[.int .i64 h.n, .string h.r] 25 (0, 0))) := rowKeep r_g012.out b13
  have o_m13 : Hid (Own W13 (W1.heap.size) (W2.heap.size) 9 (.slice ao_m L_m cap_m) (ss x)) := Own.later o_m12.out b13 (by omega)
  have o_g13 : Hid (Own W13 (W4.heap.size) (W5.heap.size) 9 (.slice ao_g L_g cap_g) (ss x)) := Own.later o_g12.out b13 (by omega)
  have c_w013_0 : W13.cell? ⟨W2.heap.size, 0, none⟩ = some (.int .i64 h.n) := row_at r_w013.out 0
  have c_w013_1 : W13.cell? ⟨W2.heap.size, 1, none⟩ = some (.string h.r) := row_at r_w013.out 1
  have c_g013_0 : W13.cell? ⟨W5.heap.size, 0, none⟩ = some (.int .i64 h.n) := row_at r_g013.out 0
  have c_g013_1 : W13.cell? ⟨W5.heap.size, 1, none⟩ = some (.string h.r) := row_at r_g013.out 1
  clear r_w012 c_w012_0 c_w012_1 r_g012 c_g012_0 c_g012_1 o_m12 o_g12
  go_wp2_with fail
  refine (Strs.marks_any W13 _ (W4.heap.size) (W5.heap.size) x 1 o_g13.out (by omega) (by omega) (by omega) (by omega)).mono ?_
  rintro e W14 ⟨rfl, o_g14, p14⟩
  have o_g14 : Hid (Own W14 (W4.heap.size) (W5.heap.size) 9 (.slice ao_g L_g cap_g) (ss (Strs.mts 1 x.length))) := o_g14
  have z14 : W13.heap.size ≤ W14.heap.size := p14.size
  have B14 : Hid (Below w.heap.size w W14) := B13.out.trans (p14.below (by have := B13.out.size; omega) B13.out.size)
  have r_w014 : Hid (W14.heap[W2.heap.size]? = some (.cells #[.int .i64 h.n, .string h.r] 25 (0, 0))) := (p14.block (W2.heap.size) (by omega) (by omega)).trans r_w013.out
  have r_g014 : Hid (W14.heap[W5.heap.size]? = some (.cells #[.int .i64 h.n, .string h.r] 25 (0, 0))) := (p14.block (W5.heap.size) (by omega) (by omega)).trans r_g013.out
  have o_m14 : Hid (Own W14 (W1.heap.size) (W2.heap.size) 9 (.slice ao_m L_m cap_m) (ss x)) := Own.apart o_m13.out p14 (by omega) (by omega)
  have c_w014_0 : W14.cell? ⟨W2.heap.size, 0, none⟩ = some (.int .i64 h.n) := row_at r_w014.out 0
  have c_w014_1 : W14.cell? ⟨W2.heap.size, 1, none⟩ = some (.string h.r) := row_at r_w014.out 1
  have c_g014_0 : W14.cell? ⟨W5.heap.size, 0, none⟩ = some (.int .i64 h.n) := row_at r_g014.out 0
  have c_g014_1 : W14.cell? ⟨W5.heap.size, 1, none⟩ = some (.string h.r) := row_at r_g014.out 1
  clear r_w013 c_w013_0 c_w013_1 r_g013 c_g013_0 c_g013_1 o_m13 o_g13
  go_wp2_with fail
  refine (Strs.helds_any W14 _ x.length 1 o_g14.out.sl (by omega) (by omega) (by omega)).mono ?_
  rintro e W15 ⟨rfl, b15⟩
  have z15 : W14.heap.size ≤ W15.heap.size := b15.size
  have B15 : Hid (Below w.heap.size w W15) := B14.out.trans (b15.mono B14.out.size)
  have r_w015 : Hid (W15.heap[W2.heap.size]? = some (.cells #[.int .i64 h.n, .string h.r] 25 (0, 0))) := rowKeep r_w014.out b15
  have r_g015 : Hid (W15.heap[W5.heap.size]? = some (.cells #[.int .i64 h.n, .string h.r] 25 (0, 0))) := rowKeep r_g014.out b15
  have o_m15 : Hid (Own W15 (W1.heap.size) (W2.heap.size) 9 (.slice ao_m L_m cap_m) (ss x)) := Own.later o_m14.out b15 (by omega)
  have o_g15 : Hid (Own W15 (W4.heap.size) (W5.heap.size) 9 (.slice ao_g L_g cap_g) (ss (Strs.mts 1 x.length))) := Own.later o_g14.out b15 (by omega)
  have c_w015_0 : W15.cell? ⟨W2.heap.size, 0, none⟩ = some (.int .i64 h.n) := row_at r_w015.out 0
  have c_w015_1 : W15.cell? ⟨W2.heap.size, 1, none⟩ = some (.string h.r) := row_at r_w015.out 1
  have c_g015_0 : W15.cell? ⟨W5.heap.size, 0, none⟩ = some (.int .i64 h.n) := row_at r_g015.out 0
  have c_g015_1 : W15.cell? ⟨W5.heap.size, 1, none⟩ = some (.string h.r) := row_at r_g015.out 1
  clear r_w014 c_w014_0 c_w014_1 r_g014 c_g014_0 c_g014_1 o_m14 o_g14
  go_wp2_with fail
  refine (to_any W15 _ b (HSB.out.later B15.out) (by omega)).mono ?_
  rintro e W16 ⟨v_y, rfl, o_y16, b16⟩
  obtain ⟨ao_y, L_y, cap_y, rfl, hL_y, hM_y⟩ := o_y16.form
  have o_y16 : Hid (Own W16 W15.heap.size W16.heap.size 5 (.slice ao_y L_y cap_y) (bs b)) := o_y16
  clear hL_y hM_y
  have z16 : W15.heap.size ≤ W16.heap.size := b16.size
  have B16 : Hid (Below w.heap.size w W16) := B15.out.trans (b16.mono B15.out.size)
  have r_w016 : Hid (W16.heap[W2.heap.size]? = some (.cells #[.int .i64 h.n, .string h.r] 25 (0, 0))) := rowKeep r_w015.out b16
  have r_g016 : Hid (W16.heap[W5.heap.size]? = some (.cells #[.int .i64 h.n, .string h.r] 25 (0, 0))) := rowKeep r_g015.out b16
  have o_m16 : Hid (Own W16 (W1.heap.size) (W2.heap.size) 9 (.slice ao_m L_m cap_m) (ss x)) := Own.later o_m15.out b16 (by omega)
  have o_g16 : Hid (Own W16 (W4.heap.size) (W5.heap.size) 9 (.slice ao_g L_g cap_g) (ss (Strs.mts 1 x.length))) := Own.later o_g15.out b16 (by omega)
  have c_w016_0 : W16.cell? ⟨W2.heap.size, 0, none⟩ = some (.int .i64 h.n) := row_at r_w016.out 0
  have c_w016_1 : W16.cell? ⟨W2.heap.size, 1, none⟩ = some (.string h.r) := row_at r_w016.out 1
  have c_g016_0 : W16.cell? ⟨W5.heap.size, 0, none⟩ = some (.int .i64 h.n) := row_at r_g016.out 0
  have c_g016_1 : W16.cell? ⟨W5.heap.size, 1, none⟩ = some (.string h.r) := row_at r_g016.out 1
  clear r_w015 c_w015_0 c_w015_1 r_g015 c_g015_0 c_g015_1 o_m15 o_g15
  go_wp2_with fail
  refine (q2 W16 _ B16.out o_y16.out.sl).mono ?_
  rintro e W17 ⟨v_h, rfl, o_h17, b17⟩
  obtain ⟨ao_h, L_h, cap_h, rfl, hL_h, hM_h⟩ := o_h17.form
  have o_h17 : Hid (Own W17 W16.heap.size W17.heap.size 9 (.slice ao_h L_h cap_h) (ss x)) := o_h17
  clear hL_h hM_h
  have z17 : W16.heap.size ≤ W17.heap.size := b17.size
  have B17 : Hid (Below w.heap.size w W17) := B16.out.trans (b17.mono B16.out.size)
  have r_w017 : Hid (W17.heap[W2.heap.size]? = some (.cells #[.int .i64 h.n, .string h.r] 25 (0, 0))) := rowKeep r_w016.out b17
  have r_g017 : Hid (W17.heap[W5.heap.size]? = some (.cells #[.int .i64 h.n, .string h.r] 25 (0, 0))) := rowKeep r_g016.out b17
  have o_m17 : Hid (Own W17 (W1.heap.size) (W2.heap.size) 9 (.slice ao_m L_m cap_m) (ss x)) := Own.later o_m16.out b17 (by omega)
  have o_g17 : Hid (Own W17 (W4.heap.size) (W5.heap.size) 9 (.slice ao_g L_g cap_g) (ss (Strs.mts 1 x.length))) := Own.later o_g16.out b17 (by omega)
  have o_y17 : Hid (Own W17 (W15.heap.size) (W16.heap.size) 5 (.slice ao_y L_y cap_y) (bs b)) := Own.later o_y16.out b17 (by omega)
  have c_w017_0 : W17.cell? ⟨W2.heap.size, 0, none⟩ = some (.int .i64 h.n) := row_at r_w017.out 0
  have c_w017_1 : W17.cell? ⟨W2.heap.size, 1, none⟩ = some (.string h.r) := row_at r_w017.out 1
  have c_g017_0 : W17.cell? ⟨W5.heap.size, 0, none⟩ = some (.int .i64 h.n) := row_at r_g017.out 0
  have c_g017_1 : W17.cell? ⟨W5.heap.size, 1, none⟩ = some (.string h.r) := row_at r_g017.out 1
  clear r_w016 c_w016_0 c_w016_1 r_g016 c_g016_0 c_g016_1 o_m16 o_g16 o_y16
  clear o_y17
  have a_w017_0 : ∀ o, (W17.alloc o).cell? ⟨W2.heap.size, 0, none⟩ = some (.int .i64 h.n) := fun o => keepR c_w017_0 ((Below.refl _ _).alloc (Nat.le_refl _) o)
  have a_w017_1 : ∀ o, (W17.alloc o).cell? ⟨W2.heap.size, 1, none⟩ = some (.string h.r) := fun o => keepR c_w017_1 ((Below.refl _ _).alloc (Nat.le_refl _) o)
  have a_g017_0 : ∀ o, (W17.alloc o).cell? ⟨W5.heap.size, 0, none⟩ = some (.int .i64 h.n) := fun o => keepR c_g017_0 ((Below.refl _ _).alloc (Nat.le_refl _) o)
  have a_g017_1 : ∀ o, (W17.alloc o).cell? ⟨W5.heap.size, 1, none⟩ = some (.string h.r) := fun o => keepR c_g017_1 ((Below.refl _ _).alloc (Nat.le_refl _) o)
  obtain ⟨W18, HW18, b18, y18, hS18, r_h018⟩ : ∃ X, Hid ((W17.alloc (.cells #[.int .i64 h.n, .string h.r] 25)) = X) ∧ Below W17.heap.size W17 X ∧ W17.heap.size + 1 ≤ X.heap.size ∧ Hid (X.heap.size = W17.heap.size + 1) ∧ Hid (X.heap[W17.heap.size]? = some (.cells #[.int .i64 h.n, .string h.r] 25 (0, 0))) := ⟨_, rfl, ((Below.refl _ _).alloc (Nat.le_refl _) _), by simp, by show _ = _; simp, (by show _ = _; exact alloc_nth1_0 W17 _)⟩
  have z18 : W17.heap.size ≤ W18.heap.size := b18.size
  have B18 : Hid (Below w.heap.size w W18) := B17.out.trans (b18.mono B17.out.size)
  have r_w018 : Hid (W18.heap[W2.heap.size]? = some (.cells #[.int .i64 h.n, .string h.r] 25 (0, 0))) := rowKeep r_w017.out b18
  have r_g018 : Hid (W18.heap[W5.heap.size]? = some (.cells #[.int .i64 h.n, .string h.r] 25 (0, 0))) := rowKeep r_g017.out b18
  have o_m18 : Hid (Own W18 (W1.heap.size) (W2.heap.size) 9 (.slice ao_m L_m cap_m) (ss x)) := Own.later o_m17.out b18 (by omega)
  have o_g18 : Hid (Own W18 (W4.heap.size) (W5.heap.size) 9 (.slice ao_g L_g cap_g) (ss (Strs.mts 1 x.length))) := Own.later o_g17.out b18 (by omega)
  have o_h18 : Hid (Own W18 (W16.heap.size) (W17.heap.size) 9 (.slice ao_h L_h cap_h) (ss x)) := Own.later o_h17.out b18 (by omega)
  have c_w018_0 : W18.cell? ⟨W2.heap.size, 0, none⟩ = some (.int .i64 h.n) := row_at r_w018.out 0
  have c_w018_1 : W18.cell? ⟨W2.heap.size, 1, none⟩ = some (.string h.r) := row_at r_w018.out 1
  have c_g018_0 : W18.cell? ⟨W5.heap.size, 0, none⟩ = some (.int .i64 h.n) := row_at r_g018.out 0
  have c_g018_1 : W18.cell? ⟨W5.heap.size, 1, none⟩ = some (.string h.r) := row_at r_g018.out 1
  have c_h018_0 : W18.cell? ⟨W17.heap.size, 0, none⟩ = some (.int .i64 h.n) := row_at r_h018.out 0
  have c_h018_1 : W18.cell? ⟨W17.heap.size, 1, none⟩ = some (.string h.r) := row_at r_h018.out 1
  clear r_w017 c_w017_0 c_w017_1 r_g017 c_g017_0 c_g017_1 o_m17 o_g17 o_h17
  go_wp2_with fail
  rw [HW18.out]
  clear a_w017_0 a_w017_1 a_g017_0 a_g017_1
  refine (eq_head W18 h).mono ?_
  rintro e W19 ⟨rfl, b19⟩
  have z19 : W18.heap.size ≤ W19.heap.size := b19.size
  have B19 : Hid (Below w.heap.size w W19) := B18.out.trans (b19.mono B18.out.size)
  have r_w019 : Hid (W19.heap[W2.heap.size]? = some (.cells #[.int .i64 h.n, .string h.r] 25 (0, 0))) := rowKeep r_w018.out b19
  have r_g019 : Hid (W19.heap[W5.heap.size]? = some (.cells #[.int .i64 h.n, .string h.r] 25 (0, 0))) := rowKeep r_g018.out b19
  have r_h019 : Hid (W19.heap[W17.heap.size]? = some (.cells #[.int .i64 h.n, .string h.r] 25 (0, 0))) := rowKeep r_h018.out b19
  have o_m19 : Hid (Own W19 (W1.heap.size) (W2.heap.size) 9 (.slice ao_m L_m cap_m) (ss x)) := Own.later o_m18.out b19 (by omega)
  have o_g19 : Hid (Own W19 (W4.heap.size) (W5.heap.size) 9 (.slice ao_g L_g cap_g) (ss (Strs.mts 1 x.length))) := Own.later o_g18.out b19 (by omega)
  have o_h19 : Hid (Own W19 (W16.heap.size) (W17.heap.size) 9 (.slice ao_h L_h cap_h) (ss x)) := Own.later o_h18.out b19 (by omega)
  have c_w019_0 : W19.cell? ⟨W2.heap.size, 0, none⟩ = some (.int .i64 h.n) := row_at r_w019.out 0
  have c_w019_1 : W19.cell? ⟨W2.heap.size, 1, none⟩ = some (.string h.r) := row_at r_w019.out 1
  have c_g019_0 : W19.cell? ⟨W5.heap.size, 0, none⟩ = some (.int .i64 h.n) := row_at r_g019.out 0
  have c_g019_1 : W19.cell? ⟨W5.heap.size, 1, none⟩ = some (.string h.r) := row_at r_g019.out 1
  have c_h019_0 : W19.cell? ⟨W17.heap.size, 0, none⟩ = some (.int .i64 h.n) := row_at r_h019.out 0
  have c_h019_1 : W19.cell? ⟨W17.heap.size, 1, none⟩ = some (.string h.r) := row_at r_h019.out 1
  clear r_w018 c_w018_0 c_w018_1 r_g018 c_g018_0 c_g018_1 r_h018 c_h018_0 c_h018_1 o_m18 o_g18 o_h18
  go_wp2_with fail
  refine (Strs.eqs_true W19 _ _ x o_h19.out.sl o_m19.out.sl (by omega)).mono ?_
  rintro e W20 ⟨rfl, h20, _⟩
  have b20 : Below W19.heap.size W19 W20 := h20 _
  clear h20
  have z20 : W19.heap.size ≤ W20.heap.size := b20.size
  have B20 : Hid (Below w.heap.size w W20) := B19.out.trans (b20.mono B19.out.size)
  have r_w020 : Hid (W20.heap[W2.heap.size]? = some (.cells #[.int .i64 h.n, .string h.r] 25 (0, 0))) := rowKeep r_w019.out b20
  have r_g020 : Hid (W20.heap[W5.heap.size]? = some (.cells #[.int .i64 h.n, .string h.r] 25 (0, 0))) := rowKeep r_g019.out b20
  have r_h020 : Hid (W20.heap[W17.heap.size]? = some (.cells #[.int .i64 h.n, .string h.r] 25 (0, 0))) := rowKeep r_h019.out b20
  have o_m20 : Hid (Own W20 (W1.heap.size) (W2.heap.size) 9 (.slice ao_m L_m cap_m) (ss x)) := Own.later o_m19.out b20 (by omega)
  have o_g20 : Hid (Own W20 (W4.heap.size) (W5.heap.size) 9 (.slice ao_g L_g cap_g) (ss (Strs.mts 1 x.length))) := Own.later o_g19.out b20 (by omega)
  have o_h20 : Hid (Own W20 (W16.heap.size) (W17.heap.size) 9 (.slice ao_h L_h cap_h) (ss x)) := Own.later o_h19.out b20 (by omega)
  have c_w020_0 : W20.cell? ⟨W2.heap.size, 0, none⟩ = some (.int .i64 h.n) := row_at r_w020.out 0
  have c_w020_1 : W20.cell? ⟨W2.heap.size, 1, none⟩ = some (.string h.r) := row_at r_w020.out 1
  have c_g020_0 : W20.cell? ⟨W5.heap.size, 0, none⟩ = some (.int .i64 h.n) := row_at r_g020.out 0
  have c_g020_1 : W20.cell? ⟨W5.heap.size, 1, none⟩ = some (.string h.r) := row_at r_g020.out 1
  have c_h020_0 : W20.cell? ⟨W17.heap.size, 0, none⟩ = some (.int .i64 h.n) := row_at r_h020.out 0
  have c_h020_1 : W20.cell? ⟨W17.heap.size, 1, none⟩ = some (.string h.r) := row_at r_h020.out 1
  clear r_w019 c_w019_0 c_w019_1 r_g019 c_g019_0 c_g019_1 r_h019 c_h019_0 c_h019_1 o_m19 o_g19 o_h19
  go_wp2_with fail
  refine (Strs.helds_any W20 _ x.length 1 o_g20.out.sl (by omega) (by omega) (by omega)).mono ?_
  rintro e W21 ⟨rfl, b21⟩
  have z21 : W20.heap.size ≤ W21.heap.size := b21.size
  have B21 : Hid (Below w.heap.size w W21) := B20.out.trans (b21.mono B20.out.size)
  have r_w021 : Hid (W21.heap[W2.heap.size]? = some (.cells #[.int .i64 h.n, .string h.r] 25 (0, 0))) := rowKeep r_w020.out b21
  have r_g021 : Hid (W21.heap[W5.heap.size]? = some (.cells #[.int .i64 h.n, .string h.r] 25 (0, 0))) := rowKeep r_g020.out b21
  have r_h021 : Hid (W21.heap[W17.heap.size]? = some (.cells #[.int .i64 h.n, .string h.r] 25 (0, 0))) := rowKeep r_h020.out b21
  have o_m21 : Hid (Own W21 (W1.heap.size) (W2.heap.size) 9 (.slice ao_m L_m cap_m) (ss x)) := Own.later o_m20.out b21 (by omega)
  have o_g21 : Hid (Own W21 (W4.heap.size) (W5.heap.size) 9 (.slice ao_g L_g cap_g) (ss (Strs.mts 1 x.length))) := Own.later o_g20.out b21 (by omega)
  have o_h21 : Hid (Own W21 (W16.heap.size) (W17.heap.size) 9 (.slice ao_h L_h cap_h) (ss x)) := Own.later o_h20.out b21 (by omega)
  have c_w021_0 : W21.cell? ⟨W2.heap.size, 0, none⟩ = some (.int .i64 h.n) := row_at r_w021.out 0
  have c_w021_1 : W21.cell? ⟨W2.heap.size, 1, none⟩ = some (.string h.r) := row_at r_w021.out 1
  have c_g021_0 : W21.cell? ⟨W5.heap.size, 0, none⟩ = some (.int .i64 h.n) := row_at r_g021.out 0
  have c_g021_1 : W21.cell? ⟨W5.heap.size, 1, none⟩ = some (.string h.r) := row_at r_g021.out 1
  have c_h021_0 : W21.cell? ⟨W17.heap.size, 0, none⟩ = some (.int .i64 h.n) := row_at r_h021.out 0
  have c_h021_1 : W21.cell? ⟨W17.heap.size, 1, none⟩ = some (.string h.r) := row_at r_h021.out 1
  clear r_w020 c_w020_0 c_w020_1 r_g020 c_g020_0 c_g020_1 r_h020 c_h020_0 c_h020_1 o_m20 o_g20 o_h20
  go_wp2
  go_ret
  exact ⟨rfl, B21.out⟩

end Go.Proofs.YtfpaichdkddglaaDoor.Sr
