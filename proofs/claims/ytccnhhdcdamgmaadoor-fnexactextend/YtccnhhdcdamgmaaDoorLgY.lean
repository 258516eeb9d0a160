/- Chapter 11: the exact laws, over contracts of the landed functions. -/
import Derived.Test.YtccnhhdcdamgmaaDoorLgX
import Derived.Test.YtccnhhdcdamgmaaDoorLgH
import Derived.Test.YtccnhhdcdamgmaaDoorHe3
import Derived.Test.YtccnhhdcdamgmaaDoorTrX
import Derived.Test.YtccnhhdcdamgmaaDoorNth
import Derived.Deep.DeepCutAuto
namespace Go.Proofs.YtccnhhdcdamgmaaDoor.Lg
open Go.RowKit Go.Proofs.YtccnhhdcdamgmaaDoor.Mem Go.Proofs.YtccnhhdcdamgmaaDoor.Laws Go.Proofs.YtccnhhdcdamgmaaDoor.Bytes Go.Proofs.YtccnhhdcdamgmaaDoor.Sha Go.Proofs.YtccnhhdcdamgmaaDoor.Tr Go.Proofs.YtccnhhdcdamgmaaDoor.He
set_option linter.unusedVariables false
set_option linter.unusedSimpArgs false

set_option maxRecDepth 1000000 in
set_option maxHeartbeats 16000000 in
theorem exact_extend (w : World) (v vt vx : Value) (l x : List ByteArray) (hd h : Hd) (t : List Hd) (hs : Sl w v (ss l)) (hz : ∀ s ∈ l, s.size ≤ maxLen) (hm : l.length ≤ maxLen) (hh : hd.r.size ≤ maxLen) (ht : Sh w vt t) (y0 : ∀ n ∈ t, n.r.size ≤ maxLen) (m0 : t.length ≤ maxLen) (hhm : h.r.size ≤ maxLen) (hsx : Sl w vx (ss x)) (hzx : ∀ s ∈ x, s.size ≤ maxLen) (hmx : x.length ≤ maxLen)
    (iF : ∀ W v1 v2 v3, Below w.heap.size w W → Sl W v1 (ss l) → Sh W v2 t → Sl W v3 (ss x) → l.length ≤ 1048576 → (∀ s ∈ l, s.size ≤ 1048576) → hd.r.size ≤ 1048576 → t.length ≤ 1048576 → (∀ n ∈ t, n.r.size ≤ 1048576) → h.r.size ≤ 1048576 → x.length ≤ 1048576 → (∀ s ∈ x, s.size ≤ 1048576) →
      Calls Tryd.prog 11 #[.agg #[v1, .int .i64 hd.n, .string hd.r], v2, .agg #[.int .i64 h.n, .string h.r], v3] W fun e w' => ∃ v'', e = .returned (.tuple #[.agg #[v'', .int .i64 (extend l hd t h x).2.1.n, .string (extend l hd t h x).2.1.r], .int .i64 (extend l hd t h x).2.2]) ∧ Own w' W.heap.size w'.heap.size 9 v'' (ss (extend l hd t h x).1) ∧ Below W.heap.size W w') :
    Calls Tryd.prog 7 #[.agg #[v, .int .i64 hd.n, .string hd.r], vt, .agg #[.int .i64 h.n, .string h.r], vx] w fun e w' => e = .returned (.bool true) ∧ Below w.heap.size w w' := by
  have HS : Hid (Sl w v (ss l)) := hs
  have HT : Hid (Sh w vt t) := ht
  have HSX : Hid (Sl w vx (ss x)) := hsx
  unfold maxLen at *
  obtain ⟨ao0, cap0, rfl, hc0⟩ := hs.form
  obtain ⟨ao2, cap2, rfl, hc2⟩ := ht.form
  obtain ⟨ao1, cap1, rfl, hc1⟩ := hsx.form
  simp only [ss_len] at *
  clear hs ht hsx
  have B0 : Hid (Below w.heap.size w w) := Below.refl _ _
  obtain ⟨W1, HW1, b1, y1, hS1, r_a1, r_h1⟩ : ∃ X, Hid (((w.alloc (.cells #[.slice ao0 l.length cap0, .int .i64 hd.n, .string hd.r] 50)).alloc (.cells #[.int .i64 h.n, .string h.r] 48)) = X) ∧ Below w.heap.size w X ∧ w.heap.size + 2 ≤ X.heap.size ∧ Hid (X.heap.size = w.heap.size + 1 + 1) ∧ Hid (X.heap[w.heap.size]? = some (.cells #[.slice ao0 l.length cap0, .int .i64 hd.n, .string hd.r] 50 (0, 0))) ∧ Hid (X.heap[w.heap.size + 1]? = some (.cells #[.int .i64 h.n, .string h.r] 48 (0, 0))) := ⟨_, rfl, (((Below.refl _ _).alloc (Nat.le_refl _) _).alloc (by simp) _), by simp, by show _ = _; simp, (by show _ = _; exact alloc_nth2_0 w _ _), (by show _ = _; exact alloc_nth2_1 w _ _)⟩
  have z1 : w.heap.size ≤ W1.heap.size := b1.size
  have B1 : Hid (Below w.heap.size w W1) := B0.out.trans (b1.mono B0.out.size)
  have c_a1_0 : W1.cell? ⟨w.heap.size, 0, none⟩ = some (.slice ao0 l.length cap0) := row_at r_a1.out 0
  have c_a1_1 : W1.cell? ⟨w.heap.size, 1, none⟩ = some (.int .i64 hd.n) := row_at r_a1.out 1
  have c_a1_2 : W1.cell? ⟨w.heap.size, 2, none⟩ = some (.string hd.r) := row_at r_a1.out 2
  have c_h1_0 : W1.cell? ⟨w.heap.size + 1, 0, none⟩ = some (.int .i64 h.n) := row_at r_h1.out 0
  have c_h1_1 : W1.cell? ⟨w.heap.size + 1, 1, none⟩ = some (.string h.r) := row_at r_h1.out 1
  go_enter Tryd.func7, Tryd.ntmps7
  go_wp2_with fail
  rw [HW1.out]
  refine (sz_log W1 _ l hd 1048576 (HS.out.later B1.out) (fun s h => by have := hz s h; omega) (by omega) (by omega) (Nat.le_refl _)).mono ?_
  rintro e W2 ⟨⟨r0, rfl, hr0⟩, b2⟩
  have z2 : W1.heap.size ≤ W2.heap.size := b2.size
  have B2 : Hid (Below w.heap.size w W2) := B1.out.trans (b2.mono B1.out.size)
  have r_a2 : Hid (W2.heap[w.heap.size]? = some (.cells #[.slice ao0 l.length cap0, .int .i64 hd.n, .string hd.r] 50 (0, 0))) := rowKeep r_a1.out b2
  have r_h2 : Hid (W2.heap[w.heap.size + 1]? = some (.cells #[.int .i64 h.n, .string h.r] 48 (0, 0))) := rowKeep r_h1.out b2
  have c_a2_0 : W2.cell? ⟨w.heap.size, 0, none⟩ = some (.slice ao0 l.length cap0) := row_at r_a2.out 0
  have c_a2_1 : W2.cell? ⟨w.heap.size, 1, none⟩ = some (.int .i64 hd.n) := row_at r_a2.out 1
  have c_a2_2 : W2.cell? ⟨w.heap.size, 2, none⟩ = some (.string hd.r) := row_at r_a2.out 2
  have c_h2_0 : W2.cell? ⟨w.heap.size + 1, 0, none⟩ = some (.int .i64 h.n) := row_at r_h2.out 0
  have c_h2_1 : W2.cell? ⟨w.heap.size + 1, 1, none⟩ = some (.string h.r) := row_at r_h2.out 1
  clear r_a1 c_a1_0 c_a1_1 c_a1_2 r_h1 c_h1_0 c_h1_1
  by_cases hr : r0 < 0
  · go_wp2
    go_ret
    exact ⟨rfl, B2.out⟩
  have hr1 : l.length + Puts.tot l ≤ 1048576 ∧ hd.r.size ≤ 1048576 ∧ 0 ≤ r0 ∧ r0 ≤ 1048576 := by rcases hr0 with h0 | h0; exact absurd h0 hr; exact h0
  obtain ⟨hr1, hzh, hr2, hr3⟩ := hr1
  have hl : l.length ≤ 1048576 := by omega
  have hzz : ∀ s ∈ l, s.size ≤ 1048576 := fun s h => Nat.le_trans (mem_tot h) (by omega)
  clear hr0 hz
  obtain ⟨n0, rfl⟩ : ∃ n0 : Nat, r0 = (n0 : Int) := ⟨r0.toNat, by omega⟩
  go_wp2_with fail
  refine (sz_heads W2 _ t n0 (HT.out.later B2.out) (fun n hn => y0 n hn) m0 (by omega)).mono ?_
  rintro e W3 ⟨⟨q0, rfl, hq1, hq0⟩, b3⟩
  have z3 : W2.heap.size ≤ W3.heap.size := b3.size
  have B3 : Hid (Below w.heap.size w W3) := B2.out.trans (b3.mono B2.out.size)
  have r_a3 : Hid (W3.heap[w.heap.size]? = some (.cells #[.slice ao0 l.length cap0, .int .i64 hd.n, .string hd.r] 50 (0, 0))) := rowKeep r_a2.out b3
  have r_h3 : Hid (W3.heap[w.heap.size + 1]? = some (.cells #[.int .i64 h.n, .string h.r] 48 (0, 0))) := rowKeep r_h2.out b3
  have c_a3_0 : W3.cell? ⟨w.heap.size, 0, none⟩ = some (.slice ao0 l.length cap0) := row_at r_a3.out 0
  have c_a3_1 : W3.cell? ⟨w.heap.size, 1, none⟩ = some (.int .i64 hd.n) := row_at r_a3.out 1
  have c_a3_2 : W3.cell? ⟨w.heap.size, 2, none⟩ = some (.string hd.r) := row_at r_a3.out 2
  have c_h3_0 : W3.cell? ⟨w.heap.size + 1, 0, none⟩ = some (.int .i64 h.n) := row_at r_h3.out 0
  have c_h3_1 : W3.cell? ⟨w.heap.size + 1, 1, none⟩ = some (.string h.r) := row_at r_h3.out 1
  clear r_a2 c_a2_0 c_a2_1 c_a2_2 r_h2 c_h2_0 c_h2_1
  by_cases hqn : q0 < 0
  · go_wp2
    go_ret
    exact ⟨rfl, B3.out⟩
  have hfit : 0 ≤ q0 ∧ t.length ≤ 1048576 ∧ ∀ n ∈ t, n.r.size ≤ 1048576 := by rcases hq0 with h | ⟨h1, h2, h3⟩; exact absurd h hqn; exact ⟨h1, by omega, fun n hn => Nat.le_trans (h3 n hn) (by omega)⟩
  obtain ⟨hq2, htl, htz⟩ := hfit
  clear hq0
  have q0h : ∀ W, _ := fun W => sz_head W h q0 hhm (by omega) (by omega)
  by_cases hb : q0 - (h.r.size : Int) < 0
  · simp only [if_pos hb] at q0h
    clear iF
    go_wp2_with fail
    refine (q0h _).mono ?_
    rintro e W4 ⟨rfl, b4⟩
    have B4 : Below w.heap.size w W4 := B3.out.trans (b4.mono B3.out.size)
    go_wp2
    go_ret
    exact ⟨rfl, B4⟩
  simp only [if_neg hb] at q0h
  have hzn : h.r.size ≤ 1048576 := by omega
  obtain ⟨m1, hm1⟩ : ∃ m1 : Nat, q0 - (h.r.size : Int) = (m1 : Int) := ⟨(q0 - (h.r.size : Int)).toNat, by omega⟩
  simp only [hm1] at q0h
  have hm1b : m1 ≤ 1048576 := by omega
  have hm1c : ¬ (m1 : Int) < 0 := by omega
  clear hm1
  go_wp2_with fail
  refine (q0h W3).mono ?_
  rintro e W4 ⟨rfl, b4⟩
  have z4 : W3.heap.size ≤ W4.heap.size := b4.size
  have B4 : Hid (Below w.heap.size w W4) := B3.out.trans (b4.mono B3.out.size)
  have r_a4 : Hid (W4.heap[w.heap.size]? = some (.cells #[.slice ao0 l.length cap0, .int .i64 hd.n, .string hd.r] 50 (0, 0))) := rowKeep r_a3.out b4
  have r_h4 : Hid (W4.heap[w.heap.size + 1]? = some (.cells #[.int .i64 h.n, .string h.r] 48 (0, 0))) := rowKeep r_h3.out b4
  have c_a4_0 : W4.cell? ⟨w.heap.size, 0, none⟩ = some (.slice ao0 l.length cap0) := row_at r_a4.out 0
  have c_a4_1 : W4.cell? ⟨w.heap.size, 1, none⟩ = some (.int .i64 hd.n) := row_at r_a4.out 1
  have c_a4_2 : W4.cell? ⟨w.heap.size, 2, none⟩ = some (.string hd.r) := row_at r_a4.out 2
  have c_h4_0 : W4.cell? ⟨w.heap.size + 1, 0, none⟩ = some (.int .i64 h.n) := row_at r_h4.out 0
  have c_h4_1 : W4.cell? ⟨w.heap.size + 1, 1, none⟩ = some (.string h.r) := row_at r_h4.out 1
  clear r_a3 c_a3_0 c_a3_1 c_a3_2 r_h3 c_h3_0 c_h3_1
  go_wp2_with fail
  refine (Strs.sz_any2 W4 _ x m1 (HSX.out.later B4.out) (fun s h => by have := hzx s h; omega) (by omega) hm1b).mono ?_
  rintro e WX ⟨⟨r9, rfl, hr9⟩, hWX⟩
  subst hWX
  by_cases hr8 : r9 < 0
  · go_wp2
    go_ret
    exact ⟨rfl, B4.out⟩
  have hx1 : x.length + Puts.tot x ≤ 1048576 := by rcases hr9 with h0 | h0; exact absurd h0 hr8; omega
  have hxl : x.length ≤ 1048576 := by omega
  have hxz : ∀ s ∈ x, s.size ≤ 1048576 := fun s h => Nat.le_trans (mem_tot h) (by omega)
  clear hr9 hzx q0h
  have q1 : ∀ W v1 v2 v3, Sl W v1 (ss l) → Sh W v2 t → Sl W v3 (ss x) → _ := fun W v1 v2 v3 h1 h2 h3 => extend_spec W v1 v2 v3 l x hd h t h1 h2 h3 (by omega) (by omega) (by omega) (fun s hs => Nat.le_trans (hzz s hs) (by omega)) (fun s hs => Nat.le_trans (hxz s hs) (by omega))
  have q2 : ∀ W v1 v2 v3, Below w.heap.size w W → Sl W v1 (ss l) → Sh W v2 t → Sl W v3 (ss x) → _ := fun W v1 v2 v3 hB h1 h2 h3 => iF W v1 v2 v3 hB h1 h2 h3 hl hzz hzh htl htz hzn hxl hxz
  have q3 : ∀ W, Below w.heap.size w W → _ := fun W hW => to_heads W _ t (HT.out.later hW) (by omega)
  have hR := ext_len l hd t h x
  obtain ⟨R, H', c, hM⟩ : ∃ R H' c, extend l hd t h x = (R, H', c) := ⟨_, _, _, rfl⟩
  simp only [hM] at q1 q2 hR
  clear hM iF htz hzz hxz y0
  have nc : (c != c) = false := by simp
  have hRb : R.length ≤ 2097152 := by omega
  clear hR
  go_upto_region 14 with fail
  go_cut [10, 11] (fun s10 s11 wx => ∃ g : Nat, s10 = .pointer (some ⟨g, 0, none⟩) ∧ s11 = .int .i64 c ∧ W4.heap.size ≤ g ∧ g < wx.heap.size ∧ Below W4.heap.size W4 wx ∧ ∃ lo hi ao L cap, W4.heap.size ≤ lo ∧ hi ≤ wx.heap.size ∧ (g < lo ∨ hi ≤ g) ∧ wx.heap[g]? = some (.cells #[.slice ao L cap, .int .i64 H'.n, .string H'.r] 28 (0, 0)) ∧ Own wx lo hi 9 (.slice ao L cap) (ss R))
  case first =>
    have D4 : Hid (Below W4.heap.size W4 W4) := Below.refl _ _
    refine wp_region_held_drew (S := fun w' => w'.cell? ⟨w.heap.size, 0, none⟩ = some (.slice ao0 l.length cap0) ∧ w'.cell? ⟨w.heap.size, 1, none⟩ = some (.int .i64 hd.n) ∧ w'.cell? ⟨w.heap.size, 2, none⟩ = some (.string hd.r) ∧ w'.cell? ⟨w.heap.size + 1, 0, none⟩ = some (.int .i64 h.n) ∧ w'.cell? ⟨w.heap.size + 1, 1, none⟩ = some (.string h.r)) (by kernel_rfl) ⟨c_a4_0, c_a4_1, c_a4_2, c_h4_0, c_h4_1⟩ (fun hHeld => ?_)
    (refine wpAnyH_take (i := 0) (v := ?v0x10) rfl (by kernel_rfl) (by kernel_rfl) (by kernel_rfl) (fun _ _ _ h => h) (Or.inl ⟨by rfl, ?hy0x10⟩) (by assumption) ?rest0x10; case hy0x10 => (intro w hSw; (try dsimp only at hSw); go_split_ands; go_simp; (try with_reducible rfl)))
    try simp only [Act.put, List.setIfInBounds_toArray, List.set_cons_zero, List.set_cons_succ, List.getElem_toArray, List.getElem_cons_zero, List.getElem_cons_succ]
    (refine wpAnyH_take (i := 2) (v := ?v2x11) rfl (by kernel_rfl) (by kernel_rfl) (by kernel_rfl) (fun _ _ _ h => h) (Or.inl ⟨by rfl, ?hy2x11⟩) (by assumption) ?rest2x11; case hy2x11 => (intro w hSw; (try dsimp only at hSw); go_split_ands; go_simp; (try with_reducible rfl)))
    try simp only [Act.put, List.setIfInBounds_toArray, List.set_cons_zero, List.set_cons_succ, List.getElem_toArray, List.getElem_cons_zero, List.getElem_cons_succ]
    (refine wpAnyH_take (i := 4) (v := ?v4x12) rfl (by kernel_rfl) (by kernel_rfl) (by kernel_rfl) (fun _ _ _ h => h) (Or.inl ⟨by rfl, ?hy4x12⟩) (by assumption) ?rest4x12; case hy4x12 => (intro w hSw; (try dsimp only at hSw); go_split_ands; go_simp; (try with_reducible rfl)))
    try simp only [Act.put, List.setIfInBounds_toArray, List.set_cons_zero, List.set_cons_succ, List.getElem_toArray, List.getElem_cons_zero, List.getElem_cons_succ]
    (refine wpAnyH_take (i := 6) (v := ?v6x13) rfl (by kernel_rfl) (by kernel_rfl) (by kernel_rfl) (fun _ _ _ h => h) (Or.inl ⟨by rfl, ?hy6x13⟩) (by assumption) ?rest6x13; case hy6x13 => (intro w hSw; (try dsimp only at hSw); go_split_ands; go_simp; (try with_reducible rfl)))
    try simp only [Act.put, List.setIfInBounds_toArray, List.set_cons_zero, List.set_cons_succ, List.getElem_toArray, List.getElem_cons_zero, List.getElem_cons_succ]
    clear r_a4 c_a4_0 c_a4_1 c_a4_2
    clear r_h4 c_h4_0 c_h4_1
    refine wpAnyH_ready (rs := [1, 12]) (by kernel_rfl) (by simp) ?_
    refine AllReadyH.cons rfl (fun K hK => ?_) (AllReadyH.cons rfl (fun K hK => ?_) AllReadyH.nil)
    · go_simp
      refine (to_log W4.drew _ l hd (HS.out.later (Below.drew B4.out)) (by omega)).mono ?_
      rintro e W5 ⟨v_t1, rfl, o_t15, b5⟩
      have b5 : Below W4.heap.size W4 W5 := (Below.drew (Below.refl _ _)).trans b5
      refine hK.out _ _ ⟨(keepR (W := W4) hHeld.1 b5), (keepR (W := W4) hHeld.2.1 b5), (keepR (W := W4) hHeld.2.2.1 b5), (keepR (W := W4) hHeld.2.2.2.1 b5), (keepR (W := W4) hHeld.2.2.2.2 b5)⟩ (fun hHeld => ?_)
      clear hK K
      try simp only [Act.put, List.setIfInBounds_toArray, List.set_cons_zero, List.set_cons_succ, List.getElem_toArray, List.getElem_cons_zero, List.getElem_cons_succ]
      have o_t15 : Own W5 W4.heap.size W5.heap.size 9 _ _ := o_t15
      obtain ⟨ao_t1, L_t1, cap_t1, rfl, hL_t1, hM_t1⟩ := o_t15.form
      have o_t15 : Hid (Own W5 W4.heap.size W5.heap.size 9 (.slice ao_t1 L_t1 cap_t1) (ss l)) := o_t15
      clear hL_t1 hM_t1
      have z5 : W4.heap.size ≤ W5.heap.size := b5.size
      have B5 : Hid (Below w.heap.size w W5) := B4.out.trans (b5.mono B4.out.size)
      have D5 : Hid (Below W4.heap.size W4 W5) := D4.out.trans (b5.mono D4.out.size)
      refine wpAnyH_ready (rs := [3, 12]) (by kernel_rfl) (by simp) ?_
      refine AllReadyH.cons rfl (fun K hK => ?_) (AllReadyH.cons rfl (fun K hK => ?_) AllReadyH.nil)
      · go_simp
        refine (q3 W5 B5.out).mono ?_
        rintro e W6 ⟨v_t2, rfl, o_t26, b6⟩
        refine hK.out _ _ ⟨(keepR (W := W5) hHeld.1 b6), (keepR (W := W5) hHeld.2.1 b6), (keepR (W := W5) hHeld.2.2.1 b6), (keepR (W := W5) hHeld.2.2.2.1 b6), (keepR (W := W5) hHeld.2.2.2.2 b6)⟩ (fun hHeld => ?_)
        clear hK K
        try simp only [Act.put, List.setIfInBounds_toArray, List.set_cons_zero, List.set_cons_succ, List.getElem_toArray, List.getElem_cons_zero, List.getElem_cons_succ]
        have z6 : W5.heap.size ≤ W6.heap.size := b6.size
        have B6 : Hid (Below w.heap.size w W6) := B5.out.trans (b6.mono B5.out.size)
        have o_t16 : Hid (Own W6 (W4.heap.size) (W5.heap.size) 9 (.slice ao_t1 L_t1 cap_t1) (ss l)) := Own.later o_t15.out b6 (by omega)
        clear o_t15
        have D6 : Hid (Below W4.heap.size W4 W6) := D5.out.trans (b6.mono D5.out.size)
        have f_t26 : Hid (Sh W6 v_t2 t) := o_t26.sh
        refine wpAnyH_ready (rs := [5, 12]) (by kernel_rfl) (by simp) ?_
        refine AllReadyH.cons rfl (fun K hK => ?_) (AllReadyH.cons rfl (fun K hK => ?_) AllReadyH.nil)
        · go_simp
          refine (to_head W6 h).mono ?_
          rintro e W7 ⟨rfl, b7⟩
          refine hK.out _ _ ⟨(keepR (W := W6) hHeld.1 b7), (keepR (W := W6) hHeld.2.1 b7), (keepR (W := W6) hHeld.2.2.1 b7), (keepR (W := W6) hHeld.2.2.2.1 b7), (keepR (W := W6) hHeld.2.2.2.2 b7)⟩ (fun hHeld => ?_)
          clear hK K
          try simp only [Act.put, List.setIfInBounds_toArray, List.set_cons_zero, List.set_cons_succ, List.getElem_toArray, List.getElem_cons_zero, List.getElem_cons_succ]
          have z7 : W6.heap.size ≤ W7.heap.size := b7.size
          have B7 : Hid (Below w.heap.size w W7) := B6.out.trans (b7.mono B6.out.size)
          have o_t17 : Hid (Own W7 (W4.heap.size) (W5.heap.size) 9 (.slice ao_t1 L_t1 cap_t1) (ss l)) := Own.later o_t16.out b7 (by omega)
          clear o_t16
          have f_t27 : Hid (Sh W7 v_t2 t) := Sh.later f_t26.out b7
          clear f_t26
          have D7 : Hid (Below W4.heap.size W4 W7) := D6.out.trans (b7.mono D6.out.size)
          refine wpAnyH_ready (rs := [7, 12]) (by kernel_rfl) (by simp) ?_
          refine AllReadyH.cons rfl (fun K hK => ?_) (AllReadyH.cons rfl (fun K hK => ?_) AllReadyH.nil)
          · go_simp
            refine (Strs.to_s W7 _ x (HSX.out.later B7.out) (by omega)).mono ?_
            rintro e W8 ⟨v_t4, rfl, o_t48, b8⟩
            refine hK.out _ _ ⟨(keepR (W := W7) hHeld.1 b8), (keepR (W := W7) hHeld.2.1 b8), (keepR (W := W7) hHeld.2.2.1 b8), (keepR (W := W7) hHeld.2.2.2.1 b8), (keepR (W := W7) hHeld.2.2.2.2 b8)⟩ (fun hHeld => ?_)
            clear hK K
            try simp only [Act.put, List.setIfInBounds_toArray, List.set_cons_zero, List.set_cons_succ, List.getElem_toArray, List.getElem_cons_zero, List.getElem_cons_succ]
            obtain ⟨ao_t4, L_t4, cap_t4, rfl, hL_t4, hM_t4⟩ := o_t48.form
            have o_t48 : Hid (Own W8 W7.heap.size W8.heap.size 9 (.slice ao_t4 L_t4 cap_t4) (ss x)) := o_t48
            clear hL_t4 hM_t4
            have z8 : W7.heap.size ≤ W8.heap.size := b8.size
            have B8 : Hid (Below w.heap.size w W8) := B7.out.trans (b8.mono B7.out.size)
            have o_t18 : Hid (Own W8 (W4.heap.size) (W5.heap.size) 9 (.slice ao_t1 L_t1 cap_t1) (ss l)) := Own.later o_t17.out b8 (by omega)
            clear o_t17
            have f_t28 : Hid (Sh W8 v_t2 t) := Sh.later f_t27.out b8
            clear f_t27
            have D8 : Hid (Below W4.heap.size W4 W8) := D7.out.trans (b8.mono D7.out.size)
            refine wpAnyH_ready (rs := [8, 12]) (by kernel_rfl) (by simp) ?_
            refine AllReadyH.cons rfl (fun K hK => ?_) (AllReadyH.cons rfl (fun K hK => ?_) AllReadyH.nil)
            · go_simp
              refine (q1 W8 _ _ _ o_t18.out.sl f_t28.out o_t48.out.sl).mono ?_
              rintro e W9 ⟨v_wv, rfl, o_wv9, b9⟩
              refine hK.out _ _ ⟨(keepR (W := W8) hHeld.1 b9), (keepR (W := W8) hHeld.2.1 b9), (keepR (W := W8) hHeld.2.2.1 b9), (keepR (W := W8) hHeld.2.2.2.1 b9), (keepR (W := W8) hHeld.2.2.2.2 b9)⟩ (fun hHeld => ?_)
              clear hK K
              try simp only [Act.put, List.setIfInBounds_toArray, List.set_cons_zero, List.set_cons_succ, List.getElem_toArray, List.getElem_cons_zero, List.getElem_cons_succ]
              obtain ⟨ao_wv, L_wv, cap_wv, rfl, hL_wv, hM_wv⟩ := o_wv9.form
              have o_wv9 : Hid (Own W9 W8.heap.size W9.heap.size 9 (.slice ao_wv L_wv cap_wv) (ss R)) := o_wv9
              clear hL_wv hM_wv
              have z9 : W8.heap.size ≤ W9.heap.size := b9.size
              have B9 : Hid (Below w.heap.size w W9) := B8.out.trans (b9.mono B8.out.size)
              have o_t19 : Hid (Own W9 (W4.heap.size) (W5.heap.size) 9 (.slice ao_t1 L_t1 cap_t1) (ss l)) := Own.later o_t18.out b9 (by omega)
              have o_t49 : Hid (Own W9 (W7.heap.size) (W8.heap.size) 9 (.slice ao_t4 L_t4 cap_t4) (ss x)) := Own.later o_t48.out b9 (by omega)
              clear o_t18 o_t48
              have f_t29 : Hid (Sh W9 v_t2 t) := Sh.later f_t28.out b9
              clear f_t28
              have D9 : Hid (Below W4.heap.size W4 W9) := D8.out.trans (b9.mono D8.out.size)
              (refine wpAnyH_take (i := 9) (v := ?v9x14) rfl (by kernel_rfl) (by kernel_rfl) (by kernel_rfl) (fun _ _ _ h => h) (Or.inl ⟨by rfl, ?hy9x14⟩) (by assumption) ?rest9x14; case hy9x14 => (intro w hSw; (try dsimp only at hSw); go_split_ands; go_simp; (try with_reducible rfl)))
              try simp only [Act.put, List.setIfInBounds_toArray, List.set_cons_zero, List.set_cons_succ, List.getElem_toArray, List.getElem_cons_zero, List.getElem_cons_succ]
              (refine wpAnyH_take (i := 10) (v := ?v10x15) rfl (by kernel_rfl) (by kernel_rfl) (by kernel_rfl) (fun _ _ _ h => h) (Or.inl ⟨by rfl, ?hy10x15⟩) (by assumption) ?rest10x15; case hy10x15 => (intro w hSw; (try dsimp only at hSw); go_split_ands; go_simp; (try with_reducible rfl)))
              try simp only [Act.put, List.setIfInBounds_toArray, List.set_cons_zero, List.set_cons_succ, List.getElem_toArray, List.getElem_cons_zero, List.getElem_cons_succ]
              (refine wpAnyH_take (i := 11) (v := ?v11x16) rfl (by kernel_rfl) (by kernel_rfl) (by kernel_rfl) (fun _ _ _ h => h) (Or.inl ⟨by rfl, ?hy11x16⟩) (by assumption) ?rest11x16; case hy11x16 => (intro w hSw; (try dsimp only at hSw); go_split_ands; go_simp; (try with_reducible rfl)))
              try simp only [Act.put, List.setIfInBounds_toArray, List.set_cons_zero, List.set_cons_succ, List.getElem_toArray, List.getElem_cons_zero, List.getElem_cons_succ]
              refine wpAnyH_ready (rs := [12]) (by kernel_rfl) (by simp) ?_
              refine AllReadyH.cons rfl (fun K hK => ?_) AllReadyH.nil
              go_simp
              refine hK.out _ _ ⟨(keepR (W := W9) hHeld.1 ((Below.refl _ _).alloc (Nat.le_refl _) _)), (keepR (W := W9) hHeld.2.1 ((Below.refl _ _).alloc (Nat.le_refl _) _)), (keepR (W := W9) hHeld.2.2.1 ((Below.refl _ _).alloc (Nat.le_refl _) _)), (keepR (W := W9) hHeld.2.2.2.1 ((Below.refl _ _).alloc (Nat.le_refl _) _)), (keepR (W := W9) hHeld.2.2.2.2 ((Below.refl _ _).alloc (Nat.le_refl _) _))⟩ (fun hHeld => ?_)
              clear hK K
              try simp only [Act.put, List.setIfInBounds_toArray, List.set_cons_zero, List.set_cons_succ, List.getElem_toArray, List.getElem_cons_zero, List.getElem_cons_succ]
              obtain ⟨W10, HW10, b10, y10, r_w010⟩ : ∃ X, Hid ((W9.alloc (.cells #[.slice none 0 0, .int .i64 0, .string ⟨#[]⟩] 28)) = X) ∧ Below W9.heap.size W9 X ∧ W9.heap.size + 1 ≤ X.heap.size ∧ Hid (X.heap[W9.heap.size]? = some (.cells #[.slice none 0 0, .int .i64 0, .string ⟨#[]⟩] 28 (0, 0))) := ⟨_, rfl, ((Below.refl _ _).alloc (Nat.le_refl _) _), (by show _ ≤ (W9.heap.push _).size; simp), heap_alloc_new W9 _⟩
              have HHW10 := HW10.out
              rw [HHW10] at hHeld ⊢
              clear HHW10
              have z10 : W9.heap.size ≤ W10.heap.size := b10.size
              have B10 : Hid (Below w.heap.size w W10) := B9.out.trans (b10.mono B9.out.size)
              have o_t110 : Hid (Own W10 (W4.heap.size) (W5.heap.size) 9 (.slice ao_t1 L_t1 cap_t1) (ss l)) := Own.later o_t19.out b10 (by omega)
              have o_t410 : Hid (Own W10 (W7.heap.size) (W8.heap.size) 9 (.slice ao_t4 L_t4 cap_t4) (ss x)) := Own.later o_t49.out b10 (by omega)
              have o_wv10 : Hid (Own W10 (W8.heap.size) (W9.heap.size) 9 (.slice ao_wv L_wv cap_wv) (ss R)) := Own.later o_wv9.out b10 (by omega)
              have c_w010_0 : W10.cell? ⟨W9.heap.size, 0, none⟩ = some (.slice none 0 0) := row_at r_w010.out 0
              have c_w010_1 : W10.cell? ⟨W9.heap.size, 1, none⟩ = some (.int .i64 0) := row_at r_w010.out 1
              have c_w010_2 : W10.cell? ⟨W9.heap.size, 2, none⟩ = some (.string ⟨#[]⟩) := row_at r_w010.out 2
              clear o_t19 o_t49 o_wv9
              have f_t210 : Hid (Sh W10 v_t2 t) := Sh.later f_t29.out b10
              clear f_t29
              have D10 : Hid (Below W4.heap.size W4 W10) := D9.out.trans (b10.mono D9.out.size)
              refine wpAnyH_ready (rs := [13]) (by kernel_rfl) (by simp) ?_
              refine AllReadyH.cons rfl (fun K hK => ?_) AllReadyH.nil
              rw [if_pos (by rfl)]
              refine wp_store_row 28 _ _ rfl (W9.heap.size) (lc (.slice ao_wv L_wv cap_wv) H') rfl rfl 28 _ r_w010.out (sizeL _ _) rfl (oneL _ rfl) ?_
              refine hK.out _ _ ⟨(cell_row (by show w.heap.size ≠ W9.heap.size; omega) hHeld.1), (cell_row (by show w.heap.size ≠ W9.heap.size; omega) hHeld.2.1), (cell_row (by show w.heap.size ≠ W9.heap.size; omega) hHeld.2.2.1), (cell_row (by show w.heap.size + 1 ≠ W9.heap.size; omega) hHeld.2.2.2.1), (cell_row (by show w.heap.size + 1 ≠ W9.heap.size; omega) hHeld.2.2.2.2)⟩ (fun hHeld => ?_)
              clear hK K
              try simp only [Act.put, List.setIfInBounds_toArray, List.set_cons_zero, List.set_cons_succ, List.getElem_toArray, List.getElem_cons_zero, List.getElem_cons_succ]
              have D11a : Below W4.heap.size W4 (W10.setRow (W9.heap.size) (lc (.slice ao_wv L_wv cap_wv) H')) := below_setRow D10.out (by omega) _
              obtain ⟨W11, HW11⟩ : ∃ X, Hid (W10.setRow (W9.heap.size) (lc (.slice ao_wv L_wv cap_wv) H') = X) := ⟨_, rfl⟩
              have z11 : W10.heap.size ≤ W11.heap.size := by rw [← HW11.out]; simp
              have B11 : Hid (Below w.heap.size w W11) := by show Below _ _ _; rw [← HW11.out]; exact below_setRow B10.out (by have := B10.out.size; omega) _
              have o_t111 : Hid (Own W11 (W4.heap.size) (W5.heap.size) 9 (.slice ao_t1 L_t1 cap_t1) (ss l)) := by show Own _ _ _ _ _ _; rw [← HW11.out]; exact Own.setRow o_t110.out _ (by omega)
              have o_t411 : Hid (Own W11 (W7.heap.size) (W8.heap.size) 9 (.slice ao_t4 L_t4 cap_t4) (ss x)) := by show Own _ _ _ _ _ _; rw [← HW11.out]; exact Own.setRow o_t410.out _ (by omega)
              have o_wv11 : Hid (Own W11 (W8.heap.size) (W9.heap.size) 9 (.slice ao_wv L_wv cap_wv) (ss R)) := by show Own _ _ _ _ _ _; rw [← HW11.out]; exact Own.setRow o_wv10.out _ (by omega)
              have r_w011 : Hid (W11.heap[W9.heap.size]? = some (.cells #[.slice ao_wv L_wv cap_wv, .int .i64 H'.n, .string H'.r] 28 (0, 0))) := by show _ = _; rw [← HW11.out]; exact setRow_heap _ _ _ _ _ (0, 0) r_w010.out
              rw [HW11.out]
              clear r_w010 c_w010_0 c_w010_1 c_w010_2 o_t110 o_t410 o_wv10
              have c_w011_0 : W11.cell? ⟨W9.heap.size, 0, none⟩ = some (.slice ao_wv L_wv cap_wv) := row_at r_w011.out 0
              have c_w011_1 : W11.cell? ⟨W9.heap.size, 1, none⟩ = some (.int .i64 H'.n) := row_at r_w011.out 1
              have c_w011_2 : W11.cell? ⟨W9.heap.size, 2, none⟩ = some (.string H'.r) := row_at r_w011.out 2
              rw [HW11.out] at hHeld
              have D11 : Hid (Below W4.heap.size W4 W11) := by show Below _ _ _; rw [← HW11.out]; exact D11a
              (refine wpAnyH_take (i := 14) (v := ?v14x17) rfl (by kernel_rfl) (by kernel_rfl) (by kernel_rfl) (fun _ _ _ h => h) (Or.inl ⟨by rfl, ?hy14x17⟩) (by assumption) ?rest14x17; case hy14x17 => (intro w hSw; (try dsimp only at hSw); go_split_ands; go_simp; (try with_reducible rfl)))
              try simp only [Act.put, List.setIfInBounds_toArray, List.set_cons_zero, List.set_cons_succ, List.getElem_toArray, List.getElem_cons_zero, List.getElem_cons_succ]
              refine wpAnyH_done (by kernel_rfl) ?_ _
              clear hHeld
              go_wp2_with fail
              go_meet
              exact ⟨W9.heap.size, rfl, rfl, by omega, (Array.getElem?_eq_some_iff.1 r_w011.out).1, D11.out, W8.heap.size, W9.heap.size, ao_wv, L_wv, cap_wv, by omega, by omega, by omega, r_w011.out, o_wv11.out⟩
            · go_simp
              refine hK.out _ _ ⟨(keepR (W := W8) hHeld.1 ((Below.refl _ _).alloc (Nat.le_refl _) _)), (keepR (W := W8) hHeld.2.1 ((Below.refl _ _).alloc (Nat.le_refl _) _)), (keepR (W := W8) hHeld.2.2.1 ((Below.refl _ _).alloc (Nat.le_refl _) _)), (keepR (W := W8) hHeld.2.2.2.1 ((Below.refl _ _).alloc (Nat.le_refl _) _)), (keepR (W := W8) hHeld.2.2.2.2 ((Below.refl _ _).alloc (Nat.le_refl _) _))⟩ (fun hHeld => ?_)
              clear hK K
              try simp only [Act.put, List.setIfInBounds_toArray, List.set_cons_zero, List.set_cons_succ, List.getElem_toArray, List.getElem_cons_zero, List.getElem_cons_succ]
              obtain ⟨W9, HW9, b9, y9, r_w09⟩ : ∃ X, Hid ((W8.alloc (.cells #[.slice none 0 0, .int .i64 0, .string ⟨#[]⟩] 28)) = X) ∧ Below W8.heap.size W8 X ∧ W8.heap.size + 1 ≤ X.heap.size ∧ Hid (X.heap[W8.heap.size]? = some (.cells #[.slice none 0 0, .int .i64 0, .string ⟨#[]⟩] 28 (0, 0))) := ⟨_, rfl, ((Below.refl _ _).alloc (Nat.le_refl _) _), (by show _ ≤ (W8.heap.push _).size; simp), heap_alloc_new W8 _⟩
              have HHW9 := HW9.out
              rw [HHW9] at hHeld ⊢
              clear HHW9
              have z9 : W8.heap.size ≤ W9.heap.size := b9.size
              have B9 : Hid (Below w.heap.size w W9) := B8.out.trans (b9.mono B8.out.size)
              have o_t19 : Hid (Own W9 (W4.heap.size) (W5.heap.size) 9 (.slice ao_t1 L_t1 cap_t1) (ss l)) := Own.later o_t18.out b9 (by omega)
              have o_t49 : Hid (Own W9 (W7.heap.size) (W8.heap.size) 9 (.slice ao_t4 L_t4 cap_t4) (ss x)) := Own.later o_t48.out b9 (by omega)
              have c_w09_0 : W9.cell? ⟨W8.heap.size, 0, none⟩ = some (.slice none 0 0) := row_at r_w09.out 0
              have c_w09_1 : W9.cell? ⟨W8.heap.size, 1, none⟩ = some (.int .i64 0) := row_at r_w09.out 1
              have c_w09_2 : W9.cell? ⟨W8.heap.size, 2, none⟩ = some (.string ⟨#[]⟩) := row_at r_w09.out 2
              clear o_t18 o_t48
              have f_t29 : Hid (Sh W9 v_t2 t) := Sh.later f_t28.out b9
              clear f_t28
              have D9 : Hid (Below W4.heap.size W4 W9) := D8.out.trans (b9.mono D8.out.size)
              refine wpAnyH_ready (rs := [8]) (by kernel_rfl) (by simp) ?_
              refine AllReadyH.cons rfl (fun K hK => ?_) AllReadyH.nil
              go_simp
              refine (q1 W9 _ _ _ o_t19.out.sl f_t29.out o_t49.out.sl).mono ?_
              rintro e W10 ⟨v_wv, rfl, o_wv10, b10⟩
              refine hK.out _ _ ⟨(keepR (W := W9) hHeld.1 b10), (keepR (W := W9) hHeld.2.1 b10), (keepR (W := W9) hHeld.2.2.1 b10), (keepR (W := W9) hHeld.2.2.2.1 b10), (keepR (W := W9) hHeld.2.2.2.2 b10)⟩ (fun hHeld => ?_)
              clear hK K
              try simp only [Act.put, List.setIfInBounds_toArray, List.set_cons_zero, List.set_cons_succ, List.getElem_toArray, List.getElem_cons_zero, List.getElem_cons_succ]
              obtain ⟨ao_wv, L_wv, cap_wv, rfl, hL_wv, hM_wv⟩ := o_wv10.form
              have o_wv10 : Hid (Own W10 W9.heap.size W10.heap.size 9 (.slice ao_wv L_wv cap_wv) (ss R)) := o_wv10
              clear hL_wv hM_wv
              have z10 : W9.heap.size ≤ W10.heap.size := b10.size
              have B10 : Hid (Below w.heap.size w W10) := B9.out.trans (b10.mono B9.out.size)
              have r_w010 : Hid (W10.heap[W8.heap.size]? = some (.cells #[.slice none 0 0, .int .i64 0, .string ⟨#[]⟩] 28 (0, 0))) := rowKeep r_w09.out b10
              have o_t110 : Hid (Own W10 (W4.heap.size) (W5.heap.size) 9 (.slice ao_t1 L_t1 cap_t1) (ss l)) := Own.later o_t19.out b10 (by omega)
              have o_t410 : Hid (Own W10 (W7.heap.size) (W8.heap.size) 9 (.slice ao_t4 L_t4 cap_t4) (ss x)) := Own.later o_t49.out b10 (by omega)
              have c_w010_0 : W10.cell? ⟨W8.heap.size, 0, none⟩ = some (.slice none 0 0) := row_at r_w010.out 0
              have c_w010_1 : W10.cell? ⟨W8.heap.size, 1, none⟩ = some (.int .i64 0) := row_at r_w010.out 1
              have c_w010_2 : W10.cell? ⟨W8.heap.size, 2, none⟩ = some (.string ⟨#[]⟩) := row_at r_w010.out 2
              clear r_w09 c_w09_0 c_w09_1 c_w09_2 o_t19 o_t49
              have f_t210 : Hid (Sh W10 v_t2 t) := Sh.later f_t29.out b10
              clear f_t29
              have D10 : Hid (Below W4.heap.size W4 W10) := D9.out.trans (b10.mono D9.out.size)
              (refine wpAnyH_take (i := 9) (v := ?v9x18) rfl (by kernel_rfl) (by kernel_rfl) (by kernel_rfl) (fun _ _ _ h => h) (Or.inl ⟨by rfl, ?hy9x18⟩) (by assumption) ?rest9x18; case hy9x18 => (intro w hSw; (try dsimp only at hSw); go_split_ands; go_simp; (try with_reducible rfl)))
              try simp only [Act.put, List.setIfInBounds_toArray, List.set_cons_zero, List.set_cons_succ, List.getElem_toArray, List.getElem_cons_zero, List.getElem_cons_succ]
              (refine wpAnyH_take (i := 10) (v := ?v10x19) rfl (by kernel_rfl) (by kernel_rfl) (by kernel_rfl) (fun _ _ _ h => h) (Or.inl ⟨by rfl, ?hy10x19⟩) (by assumption) ?rest10x19; case hy10x19 => (intro w hSw; (try dsimp only at hSw); go_split_ands; go_simp; (try with_reducible rfl)))
              try simp only [Act.put, List.setIfInBounds_toArray, List.set_cons_zero, List.set_cons_succ, List.getElem_toArray, List.getElem_cons_zero, List.getElem_cons_succ]
              (refine wpAnyH_take (i := 11) (v := ?v11x20) rfl (by kernel_rfl) (by kernel_rfl) (by kernel_rfl) (fun _ _ _ h => h) (Or.inl ⟨by rfl, ?hy11x20⟩) (by assumption) ?rest11x20; case hy11x20 => (intro w hSw; (try dsimp only at hSw); go_split_ands; go_simp; (try with_reducible rfl)))
              try simp only [Act.put, List.setIfInBounds_toArray, List.set_cons_zero, List.set_cons_succ, List.getElem_toArray, List.getElem_cons_zero, List.getElem_cons_succ]
              refine wpAnyH_ready (rs := [13]) (by kernel_rfl) (by simp) ?_
              refine AllReadyH.cons rfl (fun K hK => ?_) AllReadyH.nil
              rw [if_pos (by rfl)]
              refine wp_store_row 28 _ _ rfl (W8.heap.size) (lc (.slice ao_wv L_wv cap_wv) H') rfl rfl 28 _ r_w010.out (sizeL _ _) rfl (oneL _ rfl) ?_
              refine hK.out _ _ ⟨(cell_row (by show w.heap.size ≠ W8.heap.size; omega) hHeld.1), (cell_row (by show w.heap.size ≠ W8.heap.size; omega) hHeld.2.1), (cell_row (by show w.heap.size ≠ W8.heap.size; omega) hHeld.2.2.1), (cell_row (by show w.heap.size + 1 ≠ W8.heap.size; omega) hHeld.2.2.2.1), (cell_row (by show w.heap.size + 1 ≠ W8.heap.size; omega) hHeld.2.2.2.2)⟩ (fun hHeld => ?_)
              clear hK K
              try simp only [Act.put, List.setIfInBounds_toArray, List.set_cons_zero, List.set_cons_succ, List.getElem_toArray, List.getElem_cons_zero, List.getElem_cons_succ]
              have D11a : Below W4.heap.size W4 (W10.setRow (W8.heap.size) (lc (.slice ao_wv L_wv cap_wv) H')) := below_setRow D10.out (by omega) _
              obtain ⟨W11, HW11⟩ : ∃ X, Hid (W10.setRow (W8.heap.size) (lc (.slice ao_wv L_wv cap_wv) H') = X) := ⟨_, rfl⟩
              have z11 : W10.heap.size ≤ W11.heap.size := by rw [← HW11.out]; simp
              have B11 : Hid (Below w.heap.size w W11) := by show Below _ _ _; rw [← HW11.out]; exact below_setRow B10.out (by have := B10.out.size; omega) _
              have o_t111 : Hid (Own W11 (W4.heap.size) (W5.heap.size) 9 (.slice ao_t1 L_t1 cap_t1) (ss l)) := by show Own _ _ _ _ _ _; rw [← HW11.out]; exact Own.setRow o_t110.out _ (by omega)
              have o_t411 : Hid (Own W11 (W7.heap.size) (W8.heap.size) 9 (.slice ao_t4 L_t4 cap_t4) (ss x)) := by show Own _ _ _ _ _ _; rw [← HW11.out]; exact Own.setRow o_t410.out _ (by omega)
              have o_wv11 : Hid (Own W11 (W9.heap.size) (W10.heap.size) 9 (.slice ao_wv L_wv cap_wv) (ss R)) := by show Own _ _ _ _ _ _; rw [← HW11.out]; exact Own.setRow o_wv10.out _ (by omega)
              have r_w011 : Hid (W11.heap[W8.heap.size]? = some (.cells #[.slice ao_wv L_wv cap_wv, .int .i64 H'.n, .string H'.r] 28 (0, 0))) := by show _ = _; rw [← HW11.out]; exact setRow_heap _ _ _ _ _ (0, 0) r_w010.out
              rw [HW11.out]
              clear r_w010 c_w010_0 c_w010_1 c_w010_2 o_t110 o_t410 o_wv10
              have c_w011_0 : W11.cell? ⟨W8.heap.size, 0, none⟩ = some (.slice ao_wv L_wv cap_wv) := row_at r_w011.out 0
              have c_w011_1 : W11.cell? ⟨W8.heap.size, 1, none⟩ = some (.int .i64 H'.n) := row_at r_w011.out 1
              have c_w011_2 : W11.cell? ⟨W8.heap.size, 2, none⟩ = some (.string H'.r) := row_at r_w011.out 2
              rw [HW11.out] at hHeld
              have D11 : Hid (Below W4.heap.size W4 W11) := by show Below _ _ _; rw [← HW11.out]; exact D11a
              (refine wpAnyH_take (i := 14) (v := ?v14x21) rfl (by kernel_rfl) (by kernel_rfl) (by kernel_rfl) (fun _ _ _ h => h) (Or.inl ⟨by rfl, ?hy14x21⟩) (by assumption) ?rest14x21; case hy14x21 => (intro w hSw; (try dsimp only at hSw); go_split_ands; go_simp; (try with_reducible rfl)))
              try simp only [Act.put, List.setIfInBounds_toArray, List.set_cons_zero, List.set_cons_succ, List.getElem_toArray, List.getElem_cons_zero, List.getElem_cons_succ]
              refine wpAnyH_done (by kernel_rfl) ?_ _
              clear hHeld
              go_wp2_with fail
              go_meet
              exact ⟨W8.heap.size, rfl, rfl, by omega, (Array.getElem?_eq_some_iff.1 r_w011.out).1, D11.out, W9.heap.size, W10.heap.size, ao_wv, L_wv, cap_wv, by omega, by omega, by omega, r_w011.out, o_wv11.out⟩
          · go_simp
            refine hK.out _ _ ⟨(keepR (W := W7) hHeld.1 ((Below.refl _ _).alloc (Nat.le_refl _) _)), (keepR (W := W7) hHeld.2.1 ((Below.refl _ _).alloc (Nat.le_refl _) _)), (keepR (W := W7) hHeld.2.2.1 ((Below.refl _ _).alloc (Nat.le_refl _) _)), (keepR (W := W7) hHeld.2.2.2.1 ((Below.refl _ _).alloc (Nat.le_refl _) _)), (keepR (W := W7) hHeld.2.2.2.2 ((Below.refl _ _).alloc (Nat.le_refl _) _))⟩ (fun hHeld => ?_)
            clear hK K
            try simp only [Act.put, List.setIfInBounds_toArray, List.set_cons_zero, List.set_cons_succ, List.getElem_toArray, List.getElem_cons_zero, List.getElem_cons_succ]
            obtain ⟨W8, HW8, b8, y8, r_w08⟩ : ∃ X, Hid ((W7.alloc (.cells #[.slice none 0 0, .int .i64 0, .string ⟨#[]⟩] 28)) = X) ∧ Below W7.heap.size W7 X ∧ W7.heap.size + 1 ≤ X.heap.size ∧ Hid (X.heap[W7.heap.size]? = some (.cells #[.slice none 0 0, .int .i64 0, .string ⟨#[]⟩] 28 (0, 0))) := ⟨_, rfl, ((Below.refl _ _).alloc (Nat.le_refl _) _), (by show _ ≤ (W7.heap.push _).size; simp), heap_alloc_new W7 _⟩
            have HHW8 := HW8.out
            rw [HHW8] at hHeld ⊢
            clear HHW8
            have z8 : W7.heap.size ≤ W8.heap.size := b8.size
            have B8 : Hid (Below w.heap.size w W8) := B7.out.trans (b8.mono B7.out.size)
            have o_t18 : Hid (Own W8 (W4.heap.size) (W5.heap.size) 9 (.slice ao_t1 L_t1 cap_t1) (ss l)) := Own.later o_t17.out b8 (by omega)
            have c_w08_0 : W8.cell? ⟨W7.heap.size, 0, none⟩ = some (.slice none 0 0) := row_at r_w08.out 0
            have c_w08_1 : W8.cell? ⟨W7.heap.size, 1, none⟩ = some (.int .i64 0) := row_at r_w08.out 1
            have c_w08_2 : W8.cell? ⟨W7.heap.size, 2, none⟩ = some (.string ⟨#[]⟩) := row_at r_w08.out 2
            clear o_t17
            have f_t28 : Hid (Sh W8 v_t2 t) := Sh.later f_t27.out b8
            clear f_t27
            have D8 : Hid (Below W4.heap.size W4 W8) := D7.out.trans (b8.mono D7.out.size)
            refine wpAnyH_ready (rs := [7]) (by kernel_rfl) (by simp) ?_
            refine AllReadyH.cons rfl (fun K hK => ?_) AllReadyH.nil
            go_simp
            refine (Strs.to_s W8 _ x (HSX.out.later B8.out) (by omega)).mono ?_
            rintro e W9 ⟨v_t4, rfl, o_t49, b9⟩
            refine hK.out _ _ ⟨(keepR (W := W8) hHeld.1 b9), (keepR (W := W8) hHeld.2.1 b9), (keepR (W := W8) hHeld.2.2.1 b9), (keepR (W := W8) hHeld.2.2.2.1 b9), (keepR (W := W8) hHeld.2.2.2.2 b9)⟩ (fun hHeld => ?_)
            clear hK K
            try simp only [Act.put, List.setIfInBounds_toArray, List.set_cons_zero, List.set_cons_succ, List.getElem_toArray, List.getElem_cons_zero, List.getElem_cons_succ]
            obtain ⟨ao_t4, L_t4, cap_t4, rfl, hL_t4, hM_t4⟩ := o_t49.form
            have o_t49 : Hid (Own W9 W8.heap.size W9.heap.size 9 (.slice ao_t4 L_t4 cap_t4) (ss x)) := o_t49
            clear hL_t4 hM_t4
            have z9 : W8.heap.size ≤ W9.heap.size := b9.size
            have B9 : Hid (Below w.heap.size w W9) := B8.out.trans (b9.mono B8.out.size)
            have r_w09 : Hid (W9.heap[W7.heap.size]? = some (.cells #[.slice none 0 0, .int .i64 0, .string ⟨#[]⟩] 28 (0, 0))) := rowKeep r_w08.out b9
            have o_t19 : Hid (Own W9 (W4.heap.size) (W5.heap.size) 9 (.slice ao_t1 L_t1 cap_t1) (ss l)) := Own.later o_t18.out b9 (by omega)
            have c_w09_0 : W9.cell? ⟨W7.heap.size, 0, none⟩ = some (.slice none 0 0) := row_at r_w09.out 0
            have c_w09_1 : W9.cell? ⟨W7.heap.size, 1, none⟩ = some (.int .i64 0) := row_at r_w09.out 1
            have c_w09_2 : W9.cell? ⟨W7.heap.size, 2, none⟩ = some (.string ⟨#[]⟩) := row_at r_w09.out 2
            clear r_w08 c_w08_0 c_w08_1 c_w08_2 o_t18
            have f_t29 : Hid (Sh W9 v_t2 t) := Sh.later f_t28.out b9
            clear f_t28
            have D9 : Hid (Below W4.heap.size W4 W9) := D8.out.trans (b9.mono D8.out.size)
            refine wpAnyH_ready (rs := [8]) (by kernel_rfl) (by simp) ?_
            refine AllReadyH.cons rfl (fun K hK => ?_) AllReadyH.nil
            go_simp
            refine (q1 W9 _ _ _ o_t19.out.sl f_t29.out o_t49.out.sl).mono ?_
            rintro e W10 ⟨v_wv, rfl, o_wv10, b10⟩
            refine hK.out _ _ ⟨(keepR (W := W9) hHeld.1 b10), (keepR (W := W9) hHeld.2.1 b10), (keepR (W := W9) hHeld.2.2.1 b10), (keepR (W := W9) hHeld.2.2.2.1 b10), (keepR (W := W9) hHeld.2.2.2.2 b10)⟩ (fun hHeld => ?_)
            clear hK K
            try simp only [Act.put, List.setIfInBounds_toArray, List.set_cons_zero, List.set_cons_succ, List.getElem_toArray, List.getElem_cons_zero, List.getElem_cons_succ]
            obtain ⟨ao_wv, L_wv, cap_wv, rfl, hL_wv, hM_wv⟩ := o_wv10.form
            have o_wv10 : Hid (Own W10 W9.heap.size W10.heap.size 9 (.slice ao_wv L_wv cap_wv) (ss R)) := o_wv10
            clear hL_wv hM_wv
            have z10 : W9.heap.size ≤ W10.heap.size := b10.size
            have B10 : Hid (Below w.heap.size w W10) := B9.out.trans (b10.mono B9.out.size)
            have r_w010 : Hid (W10.heap[W7.heap.size]? = some (.cells #[.slice none 0 0, .int .i64 0, .string ⟨#[]⟩] 28 (0, 0))) := rowKeep r_w09.out b10
            have o_t110 : Hid (Own W10 (W4.heap.size) (W5.heap.size) 9 (.slice ao_t1 L_t1 cap_t1) (ss l)) := Own.later o_t19.out b10 (by omega)
            have o_t410 : Hid (Own W10 (W8.heap.size) (W9.heap.size) 9 (.slice ao_t4 L_t4 cap_t4) (ss x)) := Own.later o_t49.out b10 (by omega)
            have c_w010_0 : W10.cell? ⟨W7.heap.size, 0, none⟩ = some (.slice none 0 0) := row_at r_w010.out 0
            have c_w010_1 : W10.cell? ⟨W7.heap.size, 1, none⟩ = some (.int .i64 0) := row_at r_w010.out 1
            have c_w010_2 : W10.cell? ⟨W7.heap.size, 2, none⟩ = some (.string ⟨#[]⟩) := row_at r_w010.out 2
            clear r_w09 c_w09_0 c_w09_1 c_w09_2 o_t19 o_t49
            have f_t210 : Hid (Sh W10 v_t2 t) := Sh.later f_t29.out b10
            clear f_t29
            have D10 : Hid (Below W4.heap.size W4 W10) := D9.out.trans (b10.mono D9.out.size)
            (refine wpAnyH_take (i := 9) (v := ?v9x22) rfl (by kernel_rfl) (by kernel_rfl) (by kernel_rfl) (fun _ _ _ h => h) (Or.inl ⟨by rfl, ?hy9x22⟩) (by assumption) ?rest9x22; case hy9x22 => (intro w hSw; (try dsimp only at hSw); go_split_ands; go_simp; (try with_reducible rfl)))
            try simp only [Act.put, List.setIfInBounds_toArray, List.set_cons_zero, List.set_cons_succ, List.getElem_toArray, List.getElem_cons_zero, List.getElem_cons_succ]
            (refine wpAnyH_take (i := 10) (v := ?v10x23) rfl (by kernel_rfl) (by kernel_rfl) (by kernel_rfl) (fun _ _ _ h => h) (Or.inl ⟨by rfl, ?hy10x23⟩) (by assumption) ?rest10x23; case hy10x23 => (intro w hSw; (try dsimp only at hSw); go_split_ands; go_simp; (try with_reducible rfl)))
            try simp only [Act.put, List.setIfInBounds_toArray, List.set_cons_zero, List.set_cons_succ, List.getElem_toArray, List.getElem_cons_zero, List.getElem_cons_succ]
            (refine wpAnyH_take (i := 11) (v := ?v11x24) rfl (by kernel_rfl) (by kernel_rfl) (by kernel_rfl) (fun _ _ _ h => h) (Or.inl ⟨by rfl, ?hy11x24⟩) (by assumption) ?rest11x24; case hy11x24 => (intro w hSw; (try dsimp only at hSw); go_split_ands; go_simp; (try with_reducible rfl)))
            try simp only [Act.put, List.setIfInBounds_toArray, List.set_cons_zero, List.set_cons_succ, List.getElem_toArray, List.getElem_cons_zero, List.getElem_cons_succ]
            refine wpAnyH_ready (rs := [13]) (by kernel_rfl) (by simp) ?_
            refine AllReadyH.cons rfl (fun K hK => ?_) AllReadyH.nil
            rw [if_pos (by rfl)]
            refine wp_store_row 28 _ _ rfl (W7.heap.size) (lc (.slice ao_wv L_wv cap_wv) H') rfl rfl 28 _ r_w010.out (sizeL _ _) rfl (oneL _ rfl) ?_
            refine hK.out _ _ ⟨(cell_row (by show w.heap.size ≠ W7.heap.size; omega) hHeld.1), (cell_row (by show w.heap.size ≠ W7.heap.size; omega) hHeld.2.1), (cell_row (by show w.heap.size ≠ W7.heap.size; omega) hHeld.2.2.1), (cell_row (by show w.heap.size + 1 ≠ W7.heap.size; omega) hHeld.2.2.2.1), (cell_row (by show w.heap.size + 1 ≠ W7.heap.size; omega) hHeld.2.2.2.2)⟩ (fun hHeld => ?_)
            clear hK K
            try simp only [Act.put, List.setIfInBounds_toArray, List.set_cons_zero, List.set_cons_succ, List.getElem_toArray, List.getElem_cons_zero, List.getElem_cons_succ]
            have D11a : Below W4.heap.size W4 (W10.setRow (W7.heap.size) (lc (.slice ao_wv L_wv cap_wv) H')) := below_setRow D10.out (by omega) _
            obtain ⟨W11, HW11⟩ : ∃ X, Hid (W10.setRow (W7.heap.size) (lc (.slice ao_wv L_wv cap_wv) H') = X) := ⟨_, rfl⟩
            have z11 : W10.heap.size ≤ W11.heap.size := by rw [← HW11.out]; simp
            have B11 : Hid (Below w.heap.size w W11) := by show Below _ _ _; rw [← HW11.out]; exact below_setRow B10.out (by have := B10.out.size; omega) _
            have o_t111 : Hid (Own W11 (W4.heap.size) (W5.heap.size) 9 (.slice ao_t1 L_t1 cap_t1) (ss l)) := by show Own _ _ _ _ _ _; rw [← HW11.out]; exact Own.setRow o_t110.out _ (by omega)
            have o_t411 : Hid (Own W11 (W8.heap.size) (W9.heap.size) 9 (.slice ao_t4 L_t4 cap_t4) (ss x)) := by show Own _ _ _ _ _ _; rw [← HW11.out]; exact Own.setRow o_t410.out _ (by omega)
            have o_wv11 : Hid (Own W11 (W9.heap.size) (W10.heap.size) 9 (.slice ao_wv L_wv cap_wv) (ss R)) := by show Own _ _ _ _ _ _; rw [← HW11.out]; exact Own.setRow o_wv10.out _ (by omega)
            have r_w011 : Hid (W11.heap[W7.heap.size]? = some (.cells #[.slice ao_wv L_wv cap_wv, .int .i64 H'.n, .string H'.r] 28 (0, 0))) := by show _ = _; rw [← HW11.out]; exact setRow_heap _ _ _ _ _ (0, 0) r_w010.out
            rw [HW11.out]
            clear r_w010 c_w010_0 c_w010_1 c_w010_2 o_t110 o_t410 o_wv10
            have c_w011_0 : W11.cell? ⟨W7.heap.size, 0, none⟩ = some (.slice ao_wv L_wv cap_wv) := row_at r_w011.out 0
            have c_w011_1 : W11.cell? ⟨W7.heap.size, 1, none⟩ = some (.int .i64 H'.n) := row_at r_w011.out 1
            have c_w011_2 : W11.cell? ⟨W7.heap.size, 2, none⟩ = some (.string H'.r) := row_at r_w011.out 2
            rw [HW11.out] at hHeld
            have D11 : Hid (Below W4.heap.size W4 W11) := by show Below _ _ _; rw [← HW11.out]; exact D11a
            (refine wpAnyH_take (i := 14) (v := ?v14x25) rfl (by kernel_rfl) (by kernel_rfl) (by kernel_rfl) (fun _ _ _ h => h) (Or.inl ⟨by rfl, ?hy14x25⟩) (by assumption) ?rest14x25; case hy14x25 => (intro w hSw; (try dsimp only at hSw); go_split_ands; go_simp; (try with_reducible rfl)))
            try simp only [Act.put, List.setIfInBounds_toArray, List.set_cons_zero, List.set_cons_succ, List.getElem_toArray, List.getElem_cons_zero, List.getElem_cons_succ]
            refine wpAnyH_done (by kernel_rfl) ?_ _
            clear hHeld
            go_wp2_with fail
            go_meet
            exact ⟨W7.heap.size, rfl, rfl, by omega, (Array.getElem?_eq_some_iff.1 r_w011.out).1, D11.out, W9.heap.size, W10.heap.size, ao_wv, L_wv, cap_wv, by omega, by omega, by omega, r_w011.out, o_wv11.out⟩
        · go_simp
          refine hK.out _ _ ⟨(keepR (W := W6) hHeld.1 ((Below.refl _ _).alloc (Nat.le_refl _) _)), (keepR (W := W6) hHeld.2.1 ((Below.refl _ _).alloc (Nat.le_refl _) _)), (keepR (W := W6) hHeld.2.2.1 ((Below.refl _ _).alloc (Nat.le_refl _) _)), (keepR (W := W6) hHeld.2.2.2.1 ((Below.refl _ _).alloc (Nat.le_refl _) _)), (keepR (W := W6) hHeld.2.2.2.2 ((Below.refl _ _).alloc (Nat.le_refl _) _))⟩ (fun hHeld => ?_)
          clear hK K
          try simp only [Act.put, List.setIfInBounds_toArray, List.set_cons_zero, List.set_cons_succ, List.getElem_toArray, List.getElem_cons_zero, List.getElem_cons_succ]
          obtain ⟨W7, HW7, b7, y7, r_w07⟩ : ∃ X, Hid ((W6.alloc (.cells #[.slice none 0 0, .int .i64 0, .string ⟨#[]⟩] 28)) = X) ∧ Below W6.heap.size W6 X ∧ W6.heap.size + 1 ≤ X.heap.size ∧ Hid (X.heap[W6.heap.size]? = some (.cells #[.slice none 0 0, .int .i64 0, .string ⟨#[]⟩] 28 (0, 0))) := ⟨_, rfl, ((Below.refl _ _).alloc (Nat.le_refl _) _), (by show _ ≤ (W6.heap.push _).size; simp), heap_alloc_new W6 _⟩
          have HHW7 := HW7.out
          rw [HHW7] at hHeld ⊢
          clear HHW7
          have z7 : W6.heap.size ≤ W7.heap.size := b7.size
          have B7 : Hid (Below w.heap.size w W7) := B6.out.trans (b7.mono B6.out.size)
          have o_t17 : Hid (Own W7 (W4.heap.size) (W5.heap.size) 9 (.slice ao_t1 L_t1 cap_t1) (ss l)) := Own.later o_t16.out b7 (by omega)
          have c_w07_0 : W7.cell? ⟨W6.heap.size, 0, none⟩ = some (.slice none 0 0) := row_at r_w07.out 0
          have c_w07_1 : W7.cell? ⟨W6.heap.size, 1, none⟩ = some (.int .i64 0) := row_at r_w07.out 1
          have c_w07_2 : W7.cell? ⟨W6.heap.size, 2, none⟩ = some (.string ⟨#[]⟩) := row_at r_w07.out 2
          clear o_t16
          have f_t27 : Hid (Sh W7 v_t2 t) := Sh.later f_t26.out b7
          clear f_t26
          have D7 : Hid (Below W4.heap.size W4 W7) := D6.out.trans (b7.mono D6.out.size)
          refine wpAnyH_ready (rs := [5]) (by kernel_rfl) (by simp) ?_
          refine AllReadyH.cons rfl (fun K hK => ?_) AllReadyH.nil
          go_simp
          refine (to_head W7 h).mono ?_
          rintro e W8 ⟨rfl, b8⟩
          refine hK.out _ _ ⟨(keepR (W := W7) hHeld.1 b8), (keepR (W := W7) hHeld.2.1 b8), (keepR (W := W7) hHeld.2.2.1 b8), (keepR (W := W7) hHeld.2.2.2.1 b8), (keepR (W := W7) hHeld.2.2.2.2 b8)⟩ (fun hHeld => ?_)
          clear hK K
          try simp only [Act.put, List.setIfInBounds_toArray, List.set_cons_zero, List.set_cons_succ, List.getElem_toArray, List.getElem_cons_zero, List.getElem_cons_succ]
          have z8 : W7.heap.size ≤ W8.heap.size := b8.size
          have B8 : Hid (Below w.heap.size w W8) := B7.out.trans (b8.mono B7.out.size)
          have r_w08 : Hid (W8.heap[W6.heap.size]? = some (.cells #[.slice none 0 0, .int .i64 0, .string ⟨#[]⟩] 28 (0, 0))) := rowKeep r_w07.out b8
          have o_t18 : Hid (Own W8 (W4.heap.size) (W5.heap.size) 9 (.slice ao_t1 L_t1 cap_t1) (ss l)) := Own.later o_t17.out b8 (by omega)
          have c_w08_0 : W8.cell? ⟨W6.heap.size, 0, none⟩ = some (.slice none 0 0) := row_at r_w08.out 0
          have c_w08_1 : W8.cell? ⟨W6.heap.size, 1, none⟩ = some (.int .i64 0) := row_at r_w08.out 1
          have c_w08_2 : W8.cell? ⟨W6.heap.size, 2, none⟩ = some (.string ⟨#[]⟩) := row_at r_w08.out 2
          clear r_w07 c_w07_0 c_w07_1 c_w07_2 o_t17
          have f_t28 : Hid (Sh W8 v_t2 t) := Sh.later f_t27.out b8
          clear f_t27
          have D8 : Hid (Below W4.heap.size W4 W8) := D7.out.trans (b8.mono D7.out.size)
          refine wpAnyH_ready (rs := [7]) (by kernel_rfl) (by simp) ?_
          refine AllReadyH.cons rfl (fun K hK => ?_) AllReadyH.nil
          go_simp
          refine (Strs.to_s W8 _ x (HSX.out.later B8.out) (by omega)).mono ?_
          rintro e W9 ⟨v_t4, rfl, o_t49, b9⟩
          refine hK.out _ _ ⟨(keepR (W := W8) hHeld.1 b9), (keepR (W := W8) hHeld.2.1 b9), (keepR (W := W8) hHeld.2.2.1 b9), (keepR (W := W8) hHeld.2.2.2.1 b9), (keepR (W := W8) hHeld.2.2.2.2 b9)⟩ (fun hHeld => ?_)
          clear hK K
          try simp only [Act.put, List.setIfInBounds_toArray, List.set_cons_zero, List.set_cons_succ, List.getElem_toArray, List.getElem_cons_zero, List.getElem_cons_succ]
          obtain ⟨ao_t4, L_t4, cap_t4, rfl, hL_t4, hM_t4⟩ := o_t49.form
          have o_t49 : Hid (Own W9 W8.heap.size W9.heap.size 9 (.slice ao_t4 L_t4 cap_t4) (ss x)) := o_t49
          clear hL_t4 hM_t4
          have z9 : W8.heap.size ≤ W9.heap.size := b9.size
          have B9 : Hid (Below w.heap.size w W9) := B8.out.trans (b9.mono B8.out.size)
          have r_w09 : Hid (W9.heap[W6.heap.size]? = some (.cells #[.slice none 0 0, .int .i64 0, .string ⟨#[]⟩] 28 (0, 0))) := rowKeep r_w08.out b9
          have o_t19 : Hid (Own W9 (W4.heap.size) (W5.heap.size) 9 (.slice ao_t1 L_t1 cap_t1) (ss l)) := Own.later o_t18.out b9 (by omega)
          have c_w09_0 : W9.cell? ⟨W6.heap.size, 0, none⟩ = some (.slice none 0 0) := row_at r_w09.out 0
          have c_w09_1 : W9.cell? ⟨W6.heap.size, 1, none⟩ = some (.int .i64 0) := row_at r_w09.out 1
          have c_w09_2 : W9.cell? ⟨W6.heap.size, 2, none⟩ = some (.string ⟨#[]⟩) := row_at r_w09.out 2
          clear r_w08 c_w08_0 c_w08_1 c_w08_2 o_t18
          have f_t29 : Hid (Sh W9 v_t2 t) := Sh.later f_t28.out b9
          clear f_t28
          have D9 : Hid (Below W4.heap.size W4 W9) := D8.out.trans (b9.mono D8.out.size)
          refine wpAnyH_ready (rs := [8]) (by kernel_rfl) (by simp) ?_
          refine AllReadyH.cons rfl (fun K hK => ?_) AllReadyH.nil
          go_simp
          refine (q1 W9 _ _ _ o_t19.out.sl f_t29.out o_t49.out.sl).mono ?_
          rintro e W10 ⟨v_wv, rfl, o_wv10, b10⟩
          refine hK.out _ _ ⟨(keepR (W := W9) hHeld.1 b10), (keepR (W := W9) hHeld.2.1 b10), (keepR (W := W9) hHeld.2.2.1 b10), (keepR (W := W9) hHeld.2.2.2.1 b10), (keepR (W := W9) hHeld.2.2.2.2 b10)⟩ (fun hHeld => ?_)
          clear hK K
          try simp only [Act.put, List.setIfInBounds_toArray, List.set_cons_zero, List.set_cons_succ, List.getElem_toArray, List.getElem_cons_zero, List.getElem_cons_succ]
          obtain ⟨ao_wv, L_wv, cap_wv, rfl, hL_wv, hM_wv⟩ := o_wv10.form
          have o_wv10 : Hid (Own W10 W9.heap.size W10.heap.size 9 (.slice ao_wv L_wv cap_wv) (ss R)) := o_wv10
          clear hL_wv hM_wv
          have z10 : W9.heap.size ≤ W10.heap.size := b10.size
          have B10 : Hid (Below w.heap.size w W10) := B9.out.trans (b10.mono B9.out.size)
          have r_w010 : Hid (W10.heap[W6.heap.size]? = some (.cells #[.slice none 0 0, .int .i64 0, .string ⟨#[]⟩] 28 (0, 0))) := rowKeep r_w09.out b10
          have o_t110 : Hid (Own W10 (W4.heap.size) (W5.heap.size) 9 (.slice ao_t1 L_t1 cap_t1) (ss l)) := Own.later o_t19.out b10 (by omega)
          have o_t410 : Hid (Own W10 (W8.heap.size) (W9.heap.size) 9 (.slice ao_t4 L_t4 cap_t4) (ss x)) := Own.later o_t49.out b10 (by omega)
          have c_w010_0 : W10.cell? ⟨W6.heap.size, 0, none⟩ = some (.slice none 0 0) := row_at r_w010.out 0
          have c_w010_1 : W10.cell? ⟨W6.heap.size, 1, none⟩ = some (.int .i64 0) := row_at r_w010.out 1
          have c_w010_2 : W10.cell? ⟨W6.heap.size, 2, none⟩ = some (.string ⟨#[]⟩) := row_at r_w010.out 2
          clear r_w09 c_w09_0 c_w09_1 c_w09_2 o_t19 o_t49
          have f_t210 : Hid (Sh W10 v_t2 t) := Sh.later f_t29.out b10
          clear f_t29
          have D10 : Hid (Below W4.heap.size W4 W10) := D9.out.trans (b10.mono D9.out.size)
          (refine wpAnyH_take (i := 9) (v := ?v9x26) rfl (by kernel_rfl) (by kernel_rfl) (by kernel_rfl) (fun _ _ _ h => h) (Or.inl ⟨by rfl, ?hy9x26⟩) (by assumption) ?rest9x26; case hy9x26 => (intro w hSw; (try dsimp only at hSw); go_split_ands; go_simp; (try with_reducible rfl)))
          try simp only [Act.put, List.setIfInBounds_toArray, List.set_cons_zero, List.set_cons_succ, List.getElem_toArray, List.getElem_cons_zero, List.getElem_cons_succ]
          (refine wpAnyH_take (i := 10) (v := ?v10x27) rfl (by kernel_rfl) (by kernel_rfl) (by kernel_rfl) (fun _ _ _ h => h) (Or.inl ⟨by rfl, ?hy10x27⟩) (by assumption) ?rest10x27; case hy10x27 => (intro w hSw; (try dsimp only at hSw); go_split_ands; go_simp; (try with_reducible rfl)))
          try simp only [Act.put, List.setIfInBounds_toArray, List.set_cons_zero, List.set_cons_succ, List.getElem_toArray, List.getElem_cons_zero, List.getElem_cons_succ]
          (refine wpAnyH_take (i := 11) (v := ?v11x28) rfl (by kernel_rfl) (by kernel_rfl) (by kernel_rfl) (fun _ _ _ h => h) (Or.inl ⟨by rfl, ?hy11x28⟩) (by assumption) ?rest11x28; case hy11x28 => (intro w hSw; (try dsimp only at hSw); go_split_ands; go_simp; (try with_reducible rfl)))
          try simp only [Act.put, List.setIfInBounds_toArray, List.set_cons_zero, List.set_cons_succ, List.getElem_toArray, List.getElem_cons_zero, List.getElem_cons_succ]
          refine wpAnyH_ready (rs := [13]) (by kernel_rfl) (by simp) ?_
          refine AllReadyH.cons rfl (fun K hK => ?_) AllReadyH.nil
          rw [if_pos (by rfl)]
          refine wp_store_row 28 _ _ rfl (W6.heap.size) (lc (.slice ao_wv L_wv cap_wv) H') rfl rfl 28 _ r_w010.out (sizeL _ _) rfl (oneL _ rfl) ?_
          refine hK.out _ _ ⟨(cell_row (by show w.heap.size ≠ W6.heap.size; omega) hHeld.1), (cell_row (by show w.heap.size ≠ W6.heap.size; omega) hHeld.2.1), (cell_row (by show w.heap.size ≠ W6.heap.size; omega) hHeld.2.2.1), (cell_row (by show w.heap.size + 1 ≠ W6.heap.size; omega) hHeld.2.2.2.1), (cell_row (by show w.heap.size + 1 ≠ W6.heap.size; omega) hHeld.2.2.2.2)⟩ (fun hHeld => ?_)
          clear hK K
          try simp only [Act.put, List.setIfInBounds_toArray, List.set_cons_zero, List.set_cons_succ, List.getElem_toArray, List.getElem_cons_zero, List.getElem_cons_succ]
          have D11a : Below W4.heap.size W4 (W10.setRow (W6.heap.size) (lc (.slice ao_wv L_wv cap_wv) H')) := below_setRow D10.out (by omega) _
          obtain ⟨W11, HW11⟩ : ∃ X, Hid (W10.setRow (W6.heap.size) (lc (.slice ao_wv L_wv cap_wv) H') = X) := ⟨_, rfl⟩
          have z11 : W10.heap.size ≤ W11.heap.size := by rw [← HW11.out]; simp
          have B11 : Hid (Below w.heap.size w W11) := by show Below _ _ _; rw [← HW11.out]; exact below_setRow B10.out (by have := B10.out.size; omega) _
          have o_t111 : Hid (Own W11 (W4.heap.size) (W5.heap.size) 9 (.slice ao_t1 L_t1 cap_t1) (ss l)) := by show Own _ _ _ _ _ _; rw [← HW11.out]; exact Own.setRow o_t110.out _ (by omega)
          have o_t411 : Hid (Own W11 (W8.heap.size) (W9.heap.size) 9 (.slice ao_t4 L_t4 cap_t4) (ss x)) := by show Own _ _ _ _ _ _; rw [← HW11.out]; exact Own.setRow o_t410.out _ (by omega)
          have o_wv11 : Hid (Own W11 (W9.heap.size) (W10.heap.size) 9 (.slice ao_wv L_wv cap_wv) (ss R)) := by show Own _ _ _ _ _ _; rw [← HW11.out]; exact Own.setRow o_wv10.out _ (by omega)
          have r_w011 : Hid (W11.heap[W6.heap.size]? = some (.cells #[.slice ao_wv L_wv cap_wv, .int .i64 H'.n, .string H'.r] 28 (0, 0))) := by show _ = _; rw [← HW11.out]; exact setRow_heap _ _ _ _ _ (0, 0) r_w010.out
          rw [HW11.out]
          clear r_w010 c_w010_0 c_w010_1 c_w010_2 o_t110 o_t410 o_wv10
          have c_w011_0 : W11.cell? ⟨W6.heap.size, 0, none⟩ = some (.slice ao_wv L_wv cap_wv) := row_at r_w011.out 0
          have c_w011_1 : W11.cell? ⟨W6.heap.size, 1, none⟩ = some (.int .i64 H'.n) := row_at r_w011.out 1
          have c_w011_2 : W11.cell? ⟨W6.heap.size, 2, none⟩ = some (.string H'.r) := row_at r_w011.out 2
          rw [HW11.out] at hHeld
          have D11 : Hid (Below W4.heap.size W4 W11) := by show Below _ _ _; rw [← HW11.out]; exact D11a
          (refine wpAnyH_take (i := 14) (v := ?v14x29) rfl (by kernel_rfl) (by kernel_rfl) (by kernel_rfl) (fun _ _ _ h => h) (Or.inl ⟨by rfl, ?hy14x29⟩) (by assumption) ?rest14x29; case hy14x29 => (intro w hSw; (try dsimp only at hSw); go_split_ands; go_simp; (try with_reducible rfl)))
          try simp only [Act.put, List.setIfInBounds_toArray, List.set_cons_zero, List.set_cons_succ, List.getElem_toArray, List.getElem_cons_zero, List.getElem_cons_succ]
          refine wpAnyH_done (by kernel_rfl) ?_ _
          clear hHeld
          go_wp2_with fail
          go_meet
          exact ⟨W6.heap.size, rfl, rfl, by omega, (Array.getElem?_eq_some_iff.1 r_w011.out).1, D11.out, W9.heap.size, W10.heap.size, ao_wv, L_wv, cap_wv, by omega, by omega, by omega, r_w011.out, o_wv11.out⟩
      · go_simp
        refine hK.out _ _ ⟨(keepR (W := W5) hHeld.1 ((Below.refl _ _).alloc (Nat.le_refl _) _)), (keepR (W := W5) hHeld.2.1 ((Below.refl _ _).alloc (Nat.le_refl _) _)), (keepR (W := W5) hHeld.2.2.1 ((Below.refl _ _).alloc (Nat.le_refl _) _)), (keepR (W := W5) hHeld.2.2.2.1 ((Below.refl _ _).alloc (Nat.le_refl _) _)), (keepR (W := W5) hHeld.2.2.2.2 ((Below.refl _ _).alloc (Nat.le_refl _) _))⟩ (fun hHeld => ?_)
        clear hK K
        try simp only [Act.put, List.setIfInBounds_toArray, List.set_cons_zero, List.set_cons_succ, List.getElem_toArray, List.getElem_cons_zero, List.getElem_cons_succ]
        obtain ⟨W6, HW6, b6, y6, r_w06⟩ : ∃ X, Hid ((W5.alloc (.cells #[.slice none 0 0, .int .i64 0, .string ⟨#[]⟩] 28)) = X) ∧ Below W5.heap.size W5 X ∧ W5.heap.size + 1 ≤ X.heap.size ∧ Hid (X.heap[W5.heap.size]? = some (.cells #[.slice none 0 0, .int .i64 0, .string ⟨#[]⟩] 28 (0, 0))) := ⟨_, rfl, ((Below.refl _ _).alloc (Nat.le_refl _) _), (by show _ ≤ (W5.heap.push _).size; simp), heap_alloc_new W5 _⟩
        have HHW6 := HW6.out
        rw [HHW6] at hHeld ⊢
        clear HHW6
        have z6 : W5.heap.size ≤ W6.heap.size := b6.size
        have B6 : Hid (Below w.heap.size w W6) := B5.out.trans (b6.mono B5.out.size)
        have o_t16 : Hid (Own W6 (W4.heap.size) (W5.heap.size) 9 (.slice ao_t1 L_t1 cap_t1) (ss l)) := Own.later o_t15.out b6 (by omega)
        have c_w06_0 : W6.cell? ⟨W5.heap.size, 0, none⟩ = some (.slice none 0 0) := row_at r_w06.out 0
        have c_w06_1 : W6.cell? ⟨W5.heap.size, 1, none⟩ = some (.int .i64 0) := row_at r_w06.out 1
        have c_w06_2 : W6.cell? ⟨W5.heap.size, 2, none⟩ = some (.string ⟨#[]⟩) := row_at r_w06.out 2
        clear o_t15
        have D6 : Hid (Below W4.heap.size W4 W6) := D5.out.trans (b6.mono D5.out.size)
        refine wpAnyH_ready (rs := [3]) (by kernel_rfl) (by simp) ?_
        refine AllReadyH.cons rfl (fun K hK => ?_) AllReadyH.nil
        go_simp
        refine (q3 W6 B6.out).mono ?_
        rintro e W7 ⟨v_t2, rfl, o_t27, b7⟩
        refine hK.out _ _ ⟨(keepR (W := W6) hHeld.1 b7), (keepR (W := W6) hHeld.2.1 b7), (keepR (W := W6) hHeld.2.2.1 b7), (keepR (W := W6) hHeld.2.2.2.1 b7), (keepR (W := W6) hHeld.2.2.2.2 b7)⟩ (fun hHeld => ?_)
        clear hK K
        try simp only [Act.put, List.setIfInBounds_toArray, List.set_cons_zero, List.set_cons_succ, List.getElem_toArray, List.getElem_cons_zero, List.getElem_cons_succ]
        have z7 : W6.heap.size ≤ W7.heap.size := b7.size
        have B7 : Hid (Below w.heap.size w W7) := B6.out.trans (b7.mono B6.out.size)
        have r_w07 : Hid (W7.heap[W5.heap.size]? = some (.cells #[.slice none 0 0, .int .i64 0, .string ⟨#[]⟩] 28 (0, 0))) := rowKeep r_w06.out b7
        have o_t17 : Hid (Own W7 (W4.heap.size) (W5.heap.size) 9 (.slice ao_t1 L_t1 cap_t1) (ss l)) := Own.later o_t16.out b7 (by omega)
        have c_w07_0 : W7.cell? ⟨W5.heap.size, 0, none⟩ = some (.slice none 0 0) := row_at r_w07.out 0
        have c_w07_1 : W7.cell? ⟨W5.heap.size, 1, none⟩ = some (.int .i64 0) := row_at r_w07.out 1
        have c_w07_2 : W7.cell? ⟨W5.heap.size, 2, none⟩ = some (.string ⟨#[]⟩) := row_at r_w07.out 2
        clear r_w06 c_w06_0 c_w06_1 c_w06_2 o_t16
        have D7 : Hid (Below W4.heap.size W4 W7) := D6.out.trans (b7.mono D6.out.size)
        have f_t27 : Hid (Sh W7 v_t2 t) := o_t27.sh
        refine wpAnyH_ready (rs := [5]) (by kernel_rfl) (by simp) ?_
        refine AllReadyH.cons rfl (fun K hK => ?_) AllReadyH.nil
        go_simp
        refine (to_head W7 h).mono ?_
        rintro e W8 ⟨rfl, b8⟩
        refine hK.out _ _ ⟨(keepR (W := W7) hHeld.1 b8), (keepR (W := W7) hHeld.2.1 b8), (keepR (W := W7) hHeld.2.2.1 b8), (keepR (W := W7) hHeld.2.2.2.1 b8), (keepR (W := W7) hHeld.2.2.2.2 b8)⟩ (fun hHeld => ?_)
        clear hK K
        try simp only [Act.put, List.setIfInBounds_toArray, List.set_cons_zero, List.set_cons_succ, List.getElem_toArray, List.getElem_cons_zero, List.getElem_cons_succ]
        have z8 : W7.heap.size ≤ W8.heap.size := b8.size
        have B8 : Hid (Below w.heap.size w W8) := B7.out.trans (b8.mono B7.out.size)
        have r_w08 : Hid (W8.heap[W5.heap.size]? = some (.cells #[.slice none 0 0, .int .i64 0, .string ⟨#[]⟩] 28 (0, 0))) := rowKeep r_w07.out b8
        have o_t18 : Hid (Own W8 (W4.heap.size) (W5.heap.size) 9 (.slice ao_t1 L_t1 cap_t1) (ss l)) := Own.later o_t17.out b8 (by omega)
        have c_w08_0 : W8.cell? ⟨W5.heap.size, 0, none⟩ = some (.slice none 0 0) := row_at r_w08.out 0
        have c_w08_1 : W8.cell? ⟨W5.heap.size, 1, none⟩ = some (.int .i64 0) := row_at r_w08.out 1
        have c_w08_2 : W8.cell? ⟨W5.heap.size, 2, none⟩ = some (.string ⟨#[]⟩) := row_at r_w08.out 2
        clear r_w07 c_w07_0 c_w07_1 c_w07_2 o_t17
        have f_t28 : Hid (Sh W8 v_t2 t) := Sh.later f_t27.out b8
        clear f_t27
        have D8 : Hid (Below W4.heap.size W4 W8) := D7.out.trans (b8.mono D7.out.size)
        refine wpAnyH_ready (rs := [7]) (by kernel_rfl) (by simp) ?_
        refine AllReadyH.cons rfl (fun K hK => ?_) AllReadyH.nil
        go_simp
        refine (Strs.to_s W8 _ x (HSX.out.later B8.out) (by omega)).mono ?_
        rintro e W9 ⟨v_t4, rfl, o_t49, b9⟩
        refine hK.out _ _ ⟨(keepR (W := W8) hHeld.1 b9), (keepR (W := W8) hHeld.2.1 b9), (keepR (W := W8) hHeld.2.2.1 b9), (keepR (W := W8) hHeld.2.2.2.1 b9), (keepR (W := W8) hHeld.2.2.2.2 b9)⟩ (fun hHeld => ?_)
        clear hK K
        try simp only [Act.put, List.setIfInBounds_toArray, List.set_cons_zero, List.set_cons_succ, List.getElem_toArray, List.getElem_cons_zero, List.getElem_cons_succ]
        obtain ⟨ao_t4, L_t4, cap_t4, rfl, hL_t4, hM_t4⟩ := o_t49.form
        have o_t49 : Hid (Own W9 W8.heap.size W9.heap.size 9 (.slice ao_t4 L_t4 cap_t4) (ss x)) := o_t49
        clear hL_t4 hM_t4
        have z9 : W8.heap.size ≤ W9.heap.size := b9.size
        have B9 : Hid (Below w.heap.size w W9) := B8.out.trans (b9.mono B8.out.size)
        have r_w09 : Hid (W9.heap[W5.heap.size]? = some (.cells #[.slice none 0 0, .int .i64 0, .string ⟨#[]⟩] 28 (0, 0))) := rowKeep r_w08.out b9
        have o_t19 : Hid (Own W9 (W4.heap.size) (W5.heap.size) 9 (.slice ao_t1 L_t1 cap_t1) (ss l)) := Own.later o_t18.out b9 (by omega)
        have c_w09_0 : W9.cell? ⟨W5.heap.size, 0, none⟩ = some (.slice none 0 0) := row_at r_w09.out 0
        have c_w09_1 : W9.cell? ⟨W5.heap.size, 1, none⟩ = some (.int .i64 0) := row_at r_w09.out 1
        have c_w09_2 : W9.cell? ⟨W5.heap.size, 2, none⟩ = some (.string ⟨#[]⟩) := row_at r_w09.out 2
        clear r_w08 c_w08_0 c_w08_1 c_w08_2 o_t18
        have f_t29 : Hid (Sh W9 v_t2 t) := Sh.later f_t28.out b9
        clear f_t28
        have D9 : Hid (Below W4.heap.size W4 W9) := D8.out.trans (b9.mono D8.out.size)
        refine wpAnyH_ready (rs := [8]) (by kernel_rfl) (by simp) ?_
        refine AllReadyH.cons rfl (fun K hK => ?_) AllReadyH.nil
        go_simp
        refine (q1 W9 _ _ _ o_t19.out.sl f_t29.out o_t49.out.sl).mono ?_
        rintro e W10 ⟨v_wv, rfl, o_wv10, b10⟩
        refine hK.out _ _ ⟨(keepR (W := W9) hHeld.1 b10), (keepR (W := W9) hHeld.2.1 b10), (keepR (W := W9) hHeld.2.2.1 b10), (keepR (W := W9) hHeld.2.2.2.1 b10), (keepR (W := W9) hHeld.2.2.2.2 b10)⟩ (fun hHeld => ?_)
        clear hK K
        try simp only [Act.put, List.setIfInBounds_toArray, List.set_cons_zero, List.set_cons_succ, List.getElem_toArray, List.getElem_cons_zero, List.getElem_cons_succ]
        obtain ⟨ao_wv, L_wv, cap_wv, rfl, hL_wv, hM_wv⟩ := o_wv10.form
        have o_wv10 : Hid (Own W10 W9.heap.size W10.heap.size 9 (.slice ao_wv L_wv cap_wv) (ss R)) := o_wv10
        clear hL_wv hM_wv
        have z10 : W9.heap.size ≤ W10.heap.size := b10.size
        have B10 : Hid (Below w.heap.size w W10) := B9.out.trans (b10.mono B9.out.size)
        have r_w010 : Hid (W10.heap[W5.heap.size]? = some (.cells #[.slice none 0 0, .int .i64 0, .string ⟨#[]⟩] 28 (0, 0))) := rowKeep r_w09.out b10
        have o_t110 : Hid (Own W10 (W4.heap.size) (W5.heap.size) 9 (.slice ao_t1 L_t1 cap_t1) (ss l)) := Own.later o_t19.out b10 (by omega)
        have o_t410 : Hid (Own W10 (W8.heap.size) (W9.heap.size) 9 (.slice ao_t4 L_t4 cap_t4) (ss x)) := Own.later o_t49.out b10 (by omega)
        have c_w010_0 : W10.cell? ⟨W5.heap.size, 0, none⟩ = some (.slice none 0 0) := row_at r_w010.out 0
        have c_w010_1 : W10.cell? ⟨W5.heap.size, 1, none⟩ = some (.int .i64 0) := row_at r_w010.out 1
        have c_w010_2 : W10.cell? ⟨W5.heap.size, 2, none⟩ = some (.string ⟨#[]⟩) := row_at r_w010.out 2
        clear r_w09 c_w09_0 c_w09_1 c_w09_2 o_t19 o_t49
        have f_t210 : Hid (Sh W10 v_t2 t) := Sh.later f_t29.out b10
        clear f_t29
        have D10 : Hid (Below W4.heap.size W4 W10) := D9.out.trans (b10.mono D9.out.size)
        (refine wpAnyH_take (i := 9) (v := ?v9x30) rfl (by kernel_rfl) (by kernel_rfl) (by kernel_rfl) (fun _ _ _ h => h) (Or.inl ⟨by rfl, ?hy9x30⟩) (by assumption) ?rest9x30; case hy9x30 => (intro w hSw; (try dsimp only at hSw); go_split_ands; go_simp; (try with_reducible rfl)))
        try simp only [Act.put, List.setIfInBounds_toArray, List.set_cons_zero, List.set_cons_succ, List.getElem_toArray, List.getElem_cons_zero, List.getElem_cons_succ]
        (refine wpAnyH_take (i := 10) (v := ?v10x31) rfl (by kernel_rfl) (by kernel_rfl) (by kernel_rfl) (fun _ _ _ h => h) (Or.inl ⟨by rfl, ?hy10x31⟩) (by assumption) ?rest10x31; case hy10x31 => (intro w hSw; (try dsimp only at hSw); go_split_ands; go_simp; (try with_reducible rfl)))
        try simp only [Act.put, List.setIfInBounds_toArray, List.set_cons_zero, List.set_cons_succ, List.getElem_toArray, List.getElem_cons_zero, List.getElem_cons_succ]
        (refine wpAnyH_take (i := 11) (v := ?v11x32) rfl (by kernel_rfl) (by kernel_rfl) (by kernel_rfl) (fun _ _ _ h => h) (Or.inl ⟨by rfl, ?hy11x32⟩) (by assumption) ?rest11x32; case hy11x32 => (intro w hSw; (try dsimp only at hSw); go_split_ands; go_simp; (try with_reducible rfl)))
        try simp only [Act.put, List.setIfInBounds_toArray, List.set_cons_zero, List.set_cons_succ, List.getElem_toArray, List.getElem_cons_zero, List.getElem_cons_succ]
        refine wpAnyH_ready (rs := [13]) (by kernel_rfl) (by simp) ?_
        refine AllReadyH.cons rfl (fun K hK => ?_) AllReadyH.nil
        rw [if_pos (by rfl)]
        refine wp_store_row 28 _ _ rfl (W5.heap.size) (lc (.slice ao_wv L_wv cap_wv) H') rfl rfl 28 _ r_w010.out (sizeL _ _) rfl (oneL _ rfl) ?_
        refine hK.out _ _ ⟨(cell_row (by show w.heap.size ≠ W5.heap.size; omega) hHeld.1), (cell_row (by show w.heap.size ≠ W5.heap.size; omega) hHeld.2.1), (cell_row (by show w.heap.size ≠ W5.heap.size; omega) hHeld.2.2.1), (cell_row (by show w.heap.size + 1 ≠ W5.heap.size; omega) hHeld.2.2.2.1), (cell_row (by show w.heap.size + 1 ≠ W5.heap.size; omega) hHeld.2.2.2.2)⟩ (fun hHeld => ?_)
        clear hK K
        try simp only [Act.put, List.setIfInBounds_toArray, List.set_cons_zero, List.set_cons_succ, List.getElem_toArray, List.getElem_cons_zero, List.getElem_cons_succ]
        have D11a : Below W4.heap.size W4 (W10.setRow (W5.heap.size) (lc (.slice ao_wv L_wv cap_wv) H')) := below_setRow D10.out (by omega) _
        obtain ⟨W11, HW11⟩ : ∃ X, Hid (W10.setRow (W5.heap.size) (lc (.slice ao_wv L_wv cap_wv) H') = X) := ⟨_, rfl⟩
        have z11 : W10.heap.size ≤ W11.heap.size := by rw [← HW11.out]; simp
        have B11 : Hid (Below w.heap.size w W11) := by show Below _ _ _; rw [← HW11.out]; exact below_setRow B10.out (by have := B10.out.size; omega) _
        have o_t111 : Hid (Own W11 (W4.heap.size) (W5.heap.size) 9 (.slice ao_t1 L_t1 cap_t1) (ss l)) := by show Own _ _ _ _ _ _; rw [← HW11.out]; exact Own.setRow o_t110.out _ (by omega)
        have o_t411 : Hid (Own W11 (W8.heap.size) (W9.heap.size) 9 (.slice ao_t4 L_t4 cap_t4) (ss x)) := by show Own _ _ _ _ _ _; rw [← HW11.out]; exact Own.setRow o_t410.out _ (by omega)
        have o_wv11 : Hid (Own W11 (W9.heap.size) (W10.heap.size) 9 (.slice ao_wv L_wv cap_wv) (ss R)) := by show Own _ _ _ _ _ _; rw [← HW11.out]; exact Own.setRow o_wv10.out _ (by omega)
        have r_w011 : Hid (W11.heap[W5.heap.size]? = some (.cells #[.slice ao_wv L_wv cap_wv, .int .i64 H'.n, .string H'.r] 28 (0, 0))) := by show _ = _; rw [← HW11.out]; exact setRow_heap _ _ _ _ _ (0, 0) r_w010.out
        rw [HW11.out]
        clear r_w010 c_w010_0 c_w010_1 c_w010_2 o_t110 o_t410 o_wv10
        have c_w011_0 : W11.cell? ⟨W5.heap.size, 0, none⟩ = some (.slice ao_wv L_wv cap_wv) := row_at r_w011.out 0
        have c_w011_1 : W11.cell? ⟨W5.heap.size, 1, none⟩ = some (.int .i64 H'.n) := row_at r_w011.out 1
        have c_w011_2 : W11.cell? ⟨W5.heap.size, 2, none⟩ = some (.string H'.r) := row_at r_w011.out 2
        rw [HW11.out] at hHeld
        have D11 : Hid (Below W4.heap.size W4 W11) := by show Below _ _ _; rw [← HW11.out]; exact D11a
        (refine wpAnyH_take (i := 14) (v := ?v14x33) rfl (by kernel_rfl) (by kernel_rfl) (by kernel_rfl) (fun _ _ _ h => h) (Or.inl ⟨by rfl, ?hy14x33⟩) (by assumption) ?rest14x33; case hy14x33 => (intro w hSw; (try dsimp only at hSw); go_split_ands; go_simp; (try with_reducible rfl)))
        try simp only [Act.put, List.setIfInBounds_toArray, List.set_cons_zero, List.set_cons_succ, List.getElem_toArray, List.getElem_cons_zero, List.getElem_cons_succ]
        refine wpAnyH_done (by kernel_rfl) ?_ _
        clear hHeld
        go_wp2_with fail
        go_meet
        exact ⟨W5.heap.size, rfl, rfl, by omega, (Array.getElem?_eq_some_iff.1 r_w011.out).1, D11.out, W9.heap.size, W10.heap.size, ao_wv, L_wv, cap_wv, by omega, by omega, by omega, r_w011.out, o_wv11.out⟩
    · go_simp
      refine hK.out _ _ ⟨(keepR (W := W4.drew) hHeld.1 ((Below.refl _ _).alloc (Nat.le_refl _) _)), (keepR (W := W4.drew) hHeld.2.1 ((Below.refl _ _).alloc (Nat.le_refl _) _)), (keepR (W := W4.drew) hHeld.2.2.1 ((Below.refl _ _).alloc (Nat.le_refl _) _)), (keepR (W := W4.drew) hHeld.2.2.2.1 ((Below.refl _ _).alloc (Nat.le_refl _) _)), (keepR (W := W4.drew) hHeld.2.2.2.2 ((Below.refl _ _).alloc (Nat.le_refl _) _))⟩ (fun hHeld => ?_)
      clear hK K
      try simp only [Act.put, List.setIfInBounds_toArray, List.set_cons_zero, List.set_cons_succ, List.getElem_toArray, List.getElem_cons_zero, List.getElem_cons_succ]
      obtain ⟨W5, HW5, b5, y5, r_w05⟩ : ∃ X, Hid ((W4.alloc (.cells #[.slice none 0 0, .int .i64 0, .string ⟨#[]⟩] 28)).drew = X) ∧ Below W4.heap.size W4 X ∧ W4.heap.size + 1 ≤ X.heap.size ∧ Hid (X.heap[W4.heap.size]? = some (.cells #[.slice none 0 0, .int .i64 0, .string ⟨#[]⟩] 28 (0, 0))) := ⟨_, rfl, (Below.drew ((Below.refl _ _).alloc (Nat.le_refl _) _)), (by show _ ≤ (W4.heap.push _).size; simp), heap_alloc_new W4 _⟩
      have HHW5 := HW5.out
      rw [HHW5] at hHeld ⊢
      clear HHW5
      have z5 : W4.heap.size ≤ W5.heap.size := b5.size
      have B5 : Hid (Below w.heap.size w W5) := B4.out.trans (b5.mono B4.out.size)
      have c_w05_0 : W5.cell? ⟨W4.heap.size, 0, none⟩ = some (.slice none 0 0) := row_at r_w05.out 0
      have c_w05_1 : W5.cell? ⟨W4.heap.size, 1, none⟩ = some (.int .i64 0) := row_at r_w05.out 1
      have c_w05_2 : W5.cell? ⟨W4.heap.size, 2, none⟩ = some (.string ⟨#[]⟩) := row_at r_w05.out 2
      have D5 : Hid (Below W4.heap.size W4 W5) := D4.out.trans (b5.mono D4.out.size)
      refine wpAnyH_ready (rs := [1]) (by kernel_rfl) (by simp) ?_
      refine AllReadyH.cons rfl (fun K hK => ?_) AllReadyH.nil
      go_simp
      refine (to_log W5 _ l hd (HS.out.later B5.out) (by omega)).mono ?_
      rintro e W6 ⟨v_t1, rfl, o_t16, b6⟩
      refine hK.out _ _ ⟨(keepR (W := W5) hHeld.1 b6), (keepR (W := W5) hHeld.2.1 b6), (keepR (W := W5) hHeld.2.2.1 b6), (keepR (W := W5) hHeld.2.2.2.1 b6), (keepR (W := W5) hHeld.2.2.2.2 b6)⟩ (fun hHeld => ?_)
      clear hK K
      try simp only [Act.put, List.setIfInBounds_toArray, List.set_cons_zero, List.set_cons_succ, List.getElem_toArray, List.getElem_cons_zero, List.getElem_cons_succ]
      obtain ⟨ao_t1, L_t1, cap_t1, rfl, hL_t1, hM_t1⟩ := o_t16.form
      have o_t16 : Hid (Own W6 W5.heap.size W6.heap.size 9 (.slice ao_t1 L_t1 cap_t1) (ss l)) := o_t16
      clear hL_t1 hM_t1
      have z6 : W5.heap.size ≤ W6.heap.size := b6.size
      have B6 : Hid (Below w.heap.size w W6) := B5.out.trans (b6.mono B5.out.size)
      have r_w06 : Hid (W6.heap[W4.heap.size]? = some (.cells #[.slice none 0 0, .int .i64 0, .string ⟨#[]⟩] 28 (0, 0))) := rowKeep r_w05.out b6
      have c_w06_0 : W6.cell? ⟨W4.heap.size, 0, none⟩ = some (.slice none 0 0) := row_at r_w06.out 0
      have c_w06_1 : W6.cell? ⟨W4.heap.size, 1, none⟩ = some (.int .i64 0) := row_at r_w06.out 1
      have c_w06_2 : W6.cell? ⟨W4.heap.size, 2, none⟩ = some (.string ⟨#[]⟩) := row_at r_w06.out 2
      clear r_w05 c_w05_0 c_w05_1 c_w05_2
      have D6 : Hid (Below W4.heap.size W4 W6) := D5.out.trans (b6.mono D5.out.size)
      refine wpAnyH_ready (rs := [3]) (by kernel_rfl) (by simp) ?_
      refine AllReadyH.cons rfl (fun K hK => ?_) AllReadyH.nil
      go_simp
      refine (q3 W6 B6.out).mono ?_
      rintro e W7 ⟨v_t2, rfl, o_t27, b7⟩
      refine hK.out _ _ ⟨(keepR (W := W6) hHeld.1 b7), (keepR (W := W6) hHeld.2.1 b7), (keepR (W := W6) hHeld.2.2.1 b7), (keepR (W := W6) hHeld.2.2.2.1 b7), (keepR (W := W6) hHeld.2.2.2.2 b7)⟩ (fun hHeld => ?_)
      clear hK K
      try simp only [Act.put, List.setIfInBounds_toArray, List.set_cons_zero, List.set_cons_succ, List.getElem_toArray, List.getElem_cons_zero, List.getElem_cons_succ]
      have z7 : W6.heap.size ≤ W7.heap.size := b7.size
      have B7 : Hid (Below w.heap.size w W7) := B6.out.trans (b7.mono B6.out.size)
      have r_w07 : Hid (W7.heap[W4.heap.size]? = some (.cells #[.slice none 0 0, .int .i64 0, .string ⟨#[]⟩] 28 (0, 0))) := rowKeep r_w06.out b7
      have o_t17 : Hid (Own W7 (W5.heap.size) (W6.heap.size) 9 (.slice ao_t1 L_t1 cap_t1) (ss l)) := Own.later o_t16.out b7 (by omega)
      have c_w07_0 : W7.cell? ⟨W4.heap.size, 0, none⟩ = some (.slice none 0 0) := row_at r_w07.out 0
      have c_w07_1 : W7.cell? ⟨W4.heap.size, 1, none⟩ = some (.int .i64 0) := row_at r_w07.out 1
      have c_w07_2 : W7.cell? ⟨W4.heap.size, 2, none⟩ = some (.string ⟨#[]⟩) := row_at r_w07.out 2
      clear r_w06 c_w06_0 c_w06_1 c_w06_2 o_t16
      have D7 : Hid (Below W4.heap.size W4 W7) := D6.out.trans (b7.mono D6.out.size)
      have f_t27 : Hid (Sh W7 v_t2 t) := o_t27.sh
      refine wpAnyH_ready (rs := [5]) (by kernel_rfl) (by simp) ?_
      refine AllReadyH.cons rfl (fun K hK => ?_) AllReadyH.nil
      go_simp
      refine (to_head W7 h).mono ?_
      rintro e W8 ⟨rfl, b8⟩
      refine hK.out _ _ ⟨(keepR (W := W7) hHeld.1 b8), (keepR (W := W7) hHeld.2.1 b8), (keepR (W := W7) hHeld.2.2.1 b8), (keepR (W := W7) hHeld.2.2.2.1 b8), (keepR (W := W7) hHeld.2.2.2.2 b8)⟩ (fun hHeld => ?_)
      clear hK K
      try simp only [Act.put, List.setIfInBounds_toArray, List.set_cons_zero, List.set_cons_succ, List.getElem_toArray, List.getElem_cons_zero, List.getElem_cons_succ]
      have z8 : W7.heap.size ≤ W8.heap.size := b8.size
      have B8 : Hid (Below w.heap.size w W8) := B7.out.trans (b8.mono B7.out.size)
      have r_w08 : Hid (W8.heap[W4.heap.size]? = some (.cells #[.slice none 0 0, .int .i64 0, .string ⟨#[]⟩] 28 (0, 0))) := rowKeep r_w07.out b8
      have o_t18 : Hid (Own W8 (W5.heap.size) (W6.heap.size) 9 (.slice ao_t1 L_t1 cap_t1) (ss l)) := Own.later o_t17.out b8 (by omega)
      have c_w08_0 : W8.cell? ⟨W4.heap.size, 0, none⟩ = some (.slice none 0 0) := row_at r_w08.out 0
      have c_w08_1 : W8.cell? ⟨W4.heap.size, 1, none⟩ = some (.int .i64 0) := row_at r_w08.out 1
      have c_w08_2 : W8.cell? ⟨W4.heap.size, 2, none⟩ = some (.string ⟨#[]⟩) := row_at r_w08.out 2
      clear r_w07 c_w07_0 c_w07_1 c_w07_2 o_t17
      have f_t28 : Hid (Sh W8 v_t2 t) := Sh.later f_t27.out b8
      clear f_t27
      have D8 : Hid (Below W4.heap.size W4 W8) := D7.out.trans (b8.mono D7.out.size)
      refine wpAnyH_ready (rs := [7]) (by kernel_rfl) (by simp) ?_
      refine AllReadyH.cons rfl (fun K hK => ?_) AllReadyH.nil
      go_simp
      refine (Strs.to_s W8 _ x (HSX.out.later B8.out) (by omega)).mono ?_
      rintro e W9 ⟨v_t4, rfl, o_t49, b9⟩
      refine hK.out _ _ ⟨(keepR (W := W8) hHeld.1 b9), (keepR (W := W8) hHeld.2.1 b9), (keepR (W := W8) hHeld.2.2.1 b9), (keepR (W := W8) hHeld.2.2.2.1 b9), (keepR (W := W8) hHeld.2.2.2.2 b9)⟩ (fun hHeld => ?_)
      clear hK K
      try simp only [Act.put, List.setIfInBounds_toArray, List.set_cons_zero, List.set_cons_succ, List.getElem_toArray, List.getElem_cons_zero, List.getElem_cons_succ]
      obtain ⟨ao_t4, L_t4, cap_t4, rfl, hL_t4, hM_t4⟩ := o_t49.form
      have o_t49 : Hid (Own W9 W8.heap.size W9.heap.size 9 (.slice ao_t4 L_t4 cap_t4) (ss x)) := o_t49
      clear hL_t4 hM_t4
      have z9 : W8.heap.size ≤ W9.heap.size := b9.size
      have B9 : Hid (Below w.heap.size w W9) := B8.out.trans (b9.mono B8.out.size)
      have r_w09 : Hid (W9.heap[W4.heap.size]? = some (.cells #[.slice none 0 0, .int .i64 0, .string ⟨#[]⟩] 28 (0, 0))) := rowKeep r_w08.out b9
      have o_t19 : Hid (Own W9 (W5.heap.size) (W6.heap.size) 9 (.slice ao_t1 L_t1 cap_t1) (ss l)) := Own.later o_t18.out b9 (by omega)
      have c_w09_0 : W9.cell? ⟨W4.heap.size, 0, none⟩ = some (.slice none 0 0) := row_at r_w09.out 0
      have c_w09_1 : W9.cell? ⟨W4.heap.size, 1, none⟩ = some (.int .i64 0) := row_at r_w09.out 1
      have c_w09_2 : W9.cell? ⟨W4.heap.size, 2, none⟩ = some (.string ⟨#[]⟩) := row_at r_w09.out 2
      clear r_w08 c_w08_0 c_w08_1 c_w08_2 o_t18
      have f_t29 : Hid (Sh W9 v_t2 t) := Sh.later f_t28.out b9
      clear f_t28
      have D9 : Hid (Below W4.heap.size W4 W9) := D8.out.trans (b9.mono D8.out.size)
      refine wpAnyH_ready (rs := [8]) (by kernel_rfl) (by simp) ?_
      refine AllReadyH.cons rfl (fun K hK => ?_) AllReadyH.nil
      go_simp
      refine (q1 W9 _ _ _ o_t19.out.sl f_t29.out o_t49.out.sl).mono ?_
      rintro e W10 ⟨v_wv, rfl, o_wv10, b10⟩
      refine hK.out _ _ ⟨(keepR (W := W9) hHeld.1 b10), (keepR (W := W9) hHeld.2.1 b10), (keepR (W := W9) hHeld.2.2.1 b10), (keepR (W := W9) hHeld.2.2.2.1 b10), (keepR (W := W9) hHeld.2.2.2.2 b10)⟩ (fun hHeld => ?_)
      clear hK K
      try simp only [Act.put, List.setIfInBounds_toArray, List.set_cons_zero, List.set_cons_succ, List.getElem_toArray, List.getElem_cons_zero, List.getElem_cons_succ]
      obtain ⟨ao_wv, L_wv, cap_wv, rfl, hL_wv, hM_wv⟩ := o_wv10.form
      have o_wv10 : Hid (Own W10 W9.heap.size W10.heap.size 9 (.slice ao_wv L_wv cap_wv) (ss R)) := o_wv10
      clear hL_wv hM_wv
      have z10 : W9.heap.size ≤ W10.heap.size := b10.size
      have B10 : Hid (Below w.heap.size w W10) := B9.out.trans (b10.mono B9.out.size)
      have r_w010 : Hid (W10.heap[W4.heap.size]? = some (.cells #[.slice none 0 0, .int .i64 0, .string ⟨#[]⟩] 28 (0, 0))) := rowKeep r_w09.out b10
      have o_t110 : Hid (Own W10 (W5.heap.size) (W6.heap.size) 9 (.slice ao_t1 L_t1 cap_t1) (ss l)) := Own.later o_t19.out b10 (by omega)
      have o_t410 : Hid (Own W10 (W8.heap.size) (W9.heap.size) 9 (.slice ao_t4 L_t4 cap_t4) (ss x)) := Own.later o_t49.out b10 (by omega)
      have c_w010_0 : W10.cell? ⟨W4.heap.size, 0, none⟩ = some (.slice none 0 0) := row_at r_w010.out 0
      have c_w010_1 : W10.cell? ⟨W4.heap.size, 1, none⟩ = some (.int .i64 0) := row_at r_w010.out 1
      have c_w010_2 : W10.cell? ⟨W4.heap.size, 2, none⟩ = some (.string ⟨#[]⟩) := row_at r_w010.out 2
      clear r_w09 c_w09_0 c_w09_1 c_w09_2 o_t19 o_t49
      have f_t210 : Hid (Sh W10 v_t2 t) := Sh.later f_t29.out b10
      clear f_t29
      have D10 : Hid (Below W4.heap.size W4 W10) := D9.out.trans (b10.mono D9.out.size)
      (refine wpAnyH_take (i := 9) (v := ?v9x34) rfl (by kernel_rfl) (by kernel_rfl) (by kernel_rfl) (fun _ _ _ h => h) (Or.inl ⟨by rfl, ?hy9x34⟩) (by assumption) ?rest9x34; case hy9x34 => (intro w hSw; (try dsimp only at hSw); go_split_ands; go_simp; (try with_reducible rfl)))
      try simp only [Act.put, List.setIfInBounds_toArray, List.set_cons_zero, List.set_cons_succ, List.getElem_toArray, List.getElem_cons_zero, List.getElem_cons_succ]
      (refine wpAnyH_take (i := 10) (v := ?v10x35) rfl (by kernel_rfl) (by kernel_rfl) (by kernel_rfl) (fun _ _ _ h => h) (Or.inl ⟨by rfl, ?hy10x35⟩) (by assumption) ?rest10x35; case hy10x35 => (intro w hSw; (try dsimp only at hSw); go_split_ands; go_simp; (try with_reducible rfl)))
      try simp only [Act.put, List.setIfInBounds_toArray, List.set_cons_zero, List.set_cons_succ, List.getElem_toArray, List.getElem_cons_zero, List.getElem_cons_succ]
      (refine wpAnyH_take (i := 11) (v := ?v11x36) rfl (by kernel_rfl) (by kernel_rfl) (by kernel_rfl) (fun _ _ _ h => h) (Or.inl ⟨by rfl, ?hy11x36⟩) (by assumption) ?rest11x36; case hy11x36 => (intro w hSw; (try dsimp only at hSw); go_split_ands; go_simp; (try with_reducible rfl)))
      try simp only [Act.put, List.setIfInBounds_toArray, List.set_cons_zero, List.set_cons_succ, List.getElem_toArray, List.getElem_cons_zero, List.getElem_cons_succ]
      refine wpAnyH_ready (rs := [13]) (by kernel_rfl) (by simp) ?_
      refine AllReadyH.cons rfl (fun K hK => ?_) AllReadyH.nil
      rw [if_pos (by rfl)]
      refine wp_store_row 28 _ _ rfl (W4.heap.size) (lc (.slice ao_wv L_wv cap_wv) H') rfl rfl 28 _ r_w010.out (sizeL _ _) rfl (oneL _ rfl) ?_
      refine hK.out _ _ ⟨(cell_row (by show w.heap.size ≠ W4.heap.size; omega) hHeld.1), (cell_row (by show w.heap.size ≠ W4.heap.size; omega) hHeld.2.1), (cell_row (by show w.heap.size ≠ W4.heap.size; omega) hHeld.2.2.1), (cell_row (by show w.heap.size + 1 ≠ W4.heap.size; omega) hHeld.2.2.2.1), (cell_row (by show w.heap.size + 1 ≠ W4.heap.size; omega) hHeld.2.2.2.2)⟩ (fun hHeld => ?_)
      clear hK K
      try simp only [Act.put, List.setIfInBounds_toArray, List.set_cons_zero, List.set_cons_succ, List.getElem_toArray, List.getElem_cons_zero, List.getElem_cons_succ]
      have D11a : Below W4.heap.size W4 (W10.setRow (W4.heap.size) (lc (.slice ao_wv L_wv cap_wv) H')) := below_setRow D10.out (by omega) _
      obtain ⟨W11, HW11⟩ : ∃ X, Hid (W10.setRow (W4.heap.size) (lc (.slice ao_wv L_wv cap_wv) H') = X) := ⟨_, rfl⟩
      have z11 : W10.heap.size ≤ W11.heap.size := by rw [← HW11.out]; simp
      have B11 : Hid (Below w.heap.size w W11) := by show Below _ _ _; rw [← HW11.out]; exact below_setRow B10.out (by have := B10.out.size; omega) _
      have o_t111 : Hid (Own W11 (W5.heap.size) (W6.heap.size) 9 (.slice ao_t1 L_t1 cap_t1) (ss l)) := by show Own _ _ _ _ _ _; rw [← HW11.out]; exact Own.setRow o_t110.out _ (by omega)
      have o_t411 : Hid (Own W11 (W8.heap.size) (W9.heap.size) 9 (.slice ao_t4 L_t4 cap_t4) (ss x)) := by show Own _ _ _ _ _ _; rw [← HW11.out]; exact Own.setRow o_t410.out _ (by omega)
      have o_wv11 : Hid (Own W11 (W9.heap.size) (W10.heap.size) 9 (.slice ao_wv L_wv cap_wv) (ss R)) := by show Own _ _ _ _ _ _; rw [← HW11.out]; exact Own.setRow o_wv10.out _ (by omega)
      have r_w011 : Hid (W11.heap[W4.heap.size]? = some (.cells #[.slice ao_wv L_wv cap_wv, .int .i64 H'.n, .string H'.r] 28 (0, 0))) := by show _ = _; rw [← HW11.out]; exact setRow_heap _ _ _ _ _ (0, 0) r_w010.out
      rw [HW11.out]
      clear r_w010 c_w010_0 c_w010_1 c_w010_2 o_t110 o_t410 o_wv10
      have c_w011_0 : W11.cell? ⟨W4.heap.size, 0, none⟩ = some (.slice ao_wv L_wv cap_wv) := row_at r_w011.out 0
      have c_w011_1 : W11.cell? ⟨W4.heap.size, 1, none⟩ = some (.int .i64 H'.n) := row_at r_w011.out 1
      have c_w011_2 : W11.cell? ⟨W4.heap.size, 2, none⟩ = some (.string H'.r) := row_at r_w011.out 2
      rw [HW11.out] at hHeld
      have D11 : Hid (Below W4.heap.size W4 W11) := by show Below _ _ _; rw [← HW11.out]; exact D11a
      (refine wpAnyH_take (i := 14) (v := ?v14x37) rfl (by kernel_rfl) (by kernel_rfl) (by kernel_rfl) (fun _ _ _ h => h) (Or.inl ⟨by rfl, ?hy14x37⟩) (by assumption) ?rest14x37; case hy14x37 => (intro w hSw; (try dsimp only at hSw); go_split_ands; go_simp; (try with_reducible rfl)))
      try simp only [Act.put, List.setIfInBounds_toArray, List.set_cons_zero, List.set_cons_succ, List.getElem_toArray, List.getElem_cons_zero, List.getElem_cons_succ]
      refine wpAnyH_done (by kernel_rfl) ?_ _
      clear hHeld
      go_wp2_with fail
      go_meet
      exact ⟨W4.heap.size, rfl, rfl, by omega, (Array.getElem?_eq_some_iff.1 r_w011.out).1, D11.out, W9.heap.size, W10.heap.size, ao_wv, L_wv, cap_wv, by omega, by omega, by omega, r_w011.out, o_wv11.out⟩
  case rest =>
  obtain ⟨g_w0, rfl, rfl, hg_w0, hg2_w0, b5, lo_wv, hi_wv, ao_wv, L_wv, cap_wv, hlo_wv, hhi_wv, hgo_w0, r_w05, o_wv5⟩ := hcut
  skip
  obtain ⟨W5, hWc5⟩ : ∃ W5, wc = W5 := ⟨_, rfl⟩
  revert b5 r_w05 hg2_w0 o_wv5 hhi_wv
  generalize wc = W5
  intro hg2_w0 b5 hhi_wv r_w05 o_wv5
  have r_w05 : Hid (W5.heap[g_w0]? = some (.cells #[.slice ao_wv L_wv cap_wv, .int .i64 H'.n, .string H'.r] 28 (0, 0))) := r_w05
  have o_wv5 : Hid (Own W5 lo_wv hi_wv 9 (.slice ao_wv L_wv cap_wv) (ss R)) := o_wv5
  have z5 : W4.heap.size ≤ W5.heap.size := b5.size
  have B5 : Hid (Below w.heap.size w W5) := B4.out.trans (b5.mono B4.out.size)
  have r_a5 : Hid (W5.heap[w.heap.size]? = some (.cells #[.slice ao0 l.length cap0, .int .i64 hd.n, .string hd.r] 50 (0, 0))) := rowKeep r_a4.out b5
  have r_h5 : Hid (W5.heap[w.heap.size + 1]? = some (.cells #[.int .i64 h.n, .string h.r] 48 (0, 0))) := rowKeep r_h4.out b5
  have c_a5_0 : W5.cell? ⟨w.heap.size, 0, none⟩ = some (.slice ao0 l.length cap0) := row_at r_a5.out 0
  have c_a5_1 : W5.cell? ⟨w.heap.size, 1, none⟩ = some (.int .i64 hd.n) := row_at r_a5.out 1
  have c_a5_2 : W5.cell? ⟨w.heap.size, 2, none⟩ = some (.string hd.r) := row_at r_a5.out 2
  have c_h5_0 : W5.cell? ⟨w.heap.size + 1, 0, none⟩ = some (.int .i64 h.n) := row_at r_h5.out 0
  have c_h5_1 : W5.cell? ⟨w.heap.size + 1, 1, none⟩ = some (.string h.r) := row_at r_h5.out 1
  have c_w05_0 : W5.cell? ⟨g_w0, 0, none⟩ = some (.slice ao_wv L_wv cap_wv) := row_at r_w05.out 0
  have c_w05_1 : W5.cell? ⟨g_w0, 1, none⟩ = some (.int .i64 H'.n) := row_at r_w05.out 1
  have c_w05_2 : W5.cell? ⟨g_w0, 2, none⟩ = some (.string H'.r) := row_at r_w05.out 2
  clear r_a4 c_a4_0 c_a4_1 c_a4_2 r_h4 c_h4_0 c_h4_1
  go_wp2_with fail
  refine (to_log W5 _ l hd (HS.out.later B5.out) (by omega)).mono ?_
  rintro e W6 ⟨v_x, rfl, o_x6, b6⟩
  obtain ⟨ao_x, L_x, cap_x, rfl, hL_x, hM_x⟩ := o_x6.form
  have o_x6 : Hid (Own W6 W5.heap.size W6.heap.size 9 (.slice ao_x L_x cap_x) (ss l)) := o_x6
  clear hL_x hM_x
  have z6 : W5.heap.size ≤ W6.heap.size := b6.size
  have B6 : Hid (Below w.heap.size w W6) := B5.out.trans (b6.mono B5.out.size)
  have r_a6 : Hid (W6.heap[w.heap.size]? = some (.cells #[.slice ao0 l.length cap0, .int .i64 hd.n, .string hd.r] 50 (0, 0))) := rowKeep r_a5.out b6
  have r_h6 : Hid (W6.heap[w.heap.size + 1]? = some (.cells #[.int .i64 h.n, .string h.r] 48 (0, 0))) := rowKeep r_h5.out b6
  have r_w06 : Hid (W6.heap[g_w0]? = some (.cells #[.slice ao_wv L_wv cap_wv, .int .i64 H'.n, .string H'.r] 28 (0, 0))) := rowKeep r_w05.out b6
  have o_wv6 : Hid (Own W6 (lo_wv) (hi_wv) 9 (.slice ao_wv L_wv cap_wv) (ss R)) := Own.later o_wv5.out b6 (by omega)
  have c_a6_0 : W6.cell? ⟨w.heap.size, 0, none⟩ = some (.slice ao0 l.length cap0) := row_at r_a6.out 0
  have c_a6_1 : W6.cell? ⟨w.heap.size, 1, none⟩ = some (.int .i64 hd.n) := row_at r_a6.out 1
  have c_a6_2 : W6.cell? ⟨w.heap.size, 2, none⟩ = some (.string hd.r) := row_at r_a6.out 2
  have c_h6_0 : W6.cell? ⟨w.heap.size + 1, 0, none⟩ = some (.int .i64 h.n) := row_at r_h6.out 0
  have c_h6_1 : W6.cell? ⟨w.heap.size + 1, 1, none⟩ = some (.string h.r) := row_at r_h6.out 1
  have c_w06_0 : W6.cell? ⟨g_w0, 0, none⟩ = some (.slice ao_wv L_wv cap_wv) := row_at r_w06.out 0
  have c_w06_1 : W6.cell? ⟨g_w0, 1, none⟩ = some (.int .i64 H'.n) := row_at r_w06.out 1
  have c_w06_2 : W6.cell? ⟨g_w0, 2, none⟩ = some (.string H'.r) := row_at r_w06.out 2
  clear r_a5 c_a5_0 c_a5_1 c_a5_2 r_h5 c_h5_0 c_h5_1 r_w05 c_w05_0 c_w05_1 c_w05_2 o_wv5
  have a_a6_0 : ∀ o, (W6.alloc o).cell? ⟨w.heap.size, 0, none⟩ = some (.slice ao0 l.length cap0) := fun o => keepR c_a6_0 ((Below.refl _ _).alloc (Nat.le_refl _) o)
  have a_a6_1 : ∀ o, (W6.alloc o).cell? ⟨w.heap.size, 1, none⟩ = some (.int .i64 hd.n) := fun o => keepR c_a6_1 ((Below.refl _ _).alloc (Nat.le_refl _) o)
  have a_a6_2 : ∀ o, (W6.alloc o).cell? ⟨w.heap.size, 2, none⟩ = some (.string hd.r) := fun o => keepR c_a6_2 ((Below.refl _ _).alloc (Nat.le_refl _) o)
  have a_h6_0 : ∀ o, (W6.alloc o).cell? ⟨w.heap.size + 1, 0, none⟩ = some (.int .i64 h.n) := fun o => keepR c_h6_0 ((Below.refl _ _).alloc (Nat.le_refl _) o)
  have a_h6_1 : ∀ o, (W6.alloc o).cell? ⟨w.heap.size + 1, 1, none⟩ = some (.string h.r) := fun o => keepR c_h6_1 ((Below.refl _ _).alloc (Nat.le_refl _) o)
  have a_w06_0 : ∀ o, (W6.alloc o).cell? ⟨g_w0, 0, none⟩ = some (.slice ao_wv L_wv cap_wv) := fun o => keepR c_w06_0 ((Below.refl _ _).alloc (Nat.le_refl _) o)
  have a_w06_1 : ∀ o, (W6.alloc o).cell? ⟨g_w0, 1, none⟩ = some (.int .i64 H'.n) := fun o => keepR c_w06_1 ((Below.refl _ _).alloc (Nat.le_refl _) o)
  have a_w06_2 : ∀ o, (W6.alloc o).cell? ⟨g_w0, 2, none⟩ = some (.string H'.r) := fun o => keepR c_w06_2 ((Below.refl _ _).alloc (Nat.le_refl _) o)
  obtain ⟨W7, HW7, b7, y7, hS7, r_x07⟩ : ∃ X, Hid ((W6.alloc (.cells #[.slice ao_x L_x cap_x, .int .i64 hd.n, .string hd.r] 28)) = X) ∧ Below W6.heap.size W6 X ∧ W6.heap.size + 1 ≤ X.heap.size ∧ Hid (X.heap.size = W6.heap.size + 1) ∧ Hid (X.heap[W6.heap.size]? = some (.cells #[.slice ao_x L_x cap_x, .int .i64 hd.n, .string hd.r] 28 (0, 0))) := ⟨_, rfl, ((Below.refl _ _).alloc (Nat.le_refl _) _), by simp, by show _ = _; simp, (by show _ = _; exact alloc_nth1_0 W6 _)⟩
  have z7 : W6.heap.size ≤ W7.heap.size := b7.size
  have B7 : Hid (Below w.heap.size w W7) := B6.out.trans (b7.mono B6.out.size)
  have r_a7 : Hid (W7.heap[w.heap.size]? = some (.cells #[.slice ao0 l.length cap0, .int .i64 hd.n, .string hd.r] 50 (0, 0))) := rowKeep r_a6.out b7
  have r_h7 : Hid (W7.heap[w.heap.size + 1]? = some (.cells #[.int .i64 h.n, .string h.r] 48 (0, 0))) := rowKeep r_h6.out b7
  have r_w07 : Hid (W7.heap[g_w0]? = some (.cells #[.slice ao_wv L_wv cap_wv, .int .i64 H'.n, .string H'.r] 28 (0, 0))) := rowKeep r_w06.out b7
  have o_wv7 : Hid (Own W7 (lo_wv) (hi_wv) 9 (.slice ao_wv L_wv cap_wv) (ss R)) := Own.later o_wv6.out b7 (by omega)
  have o_x7 : Hid (Own W7 (W5.heap.size) (W6.heap.size) 9 (.slice ao_x L_x cap_x) (ss l)) := Own.later o_x6.out b7 (by omega)
  have c_a7_0 : W7.cell? ⟨w.heap.size, 0, none⟩ = some (.slice ao0 l.length cap0) := row_at r_a7.out 0
  have c_a7_1 : W7.cell? ⟨w.heap.size, 1, none⟩ = some (.int .i64 hd.n) := row_at r_a7.out 1
  have c_a7_2 : W7.cell? ⟨w.heap.size, 2, none⟩ = some (.string hd.r) := row_at r_a7.out 2
  have c_h7_0 : W7.cell? ⟨w.heap.size + 1, 0, none⟩ = some (.int .i64 h.n) := row_at r_h7.out 0
  have c_h7_1 : W7.cell? ⟨w.heap.size + 1, 1, none⟩ = some (.string h.r) := row_at r_h7.out 1
  have c_w07_0 : W7.cell? ⟨g_w0, 0, none⟩ = some (.slice ao_wv L_wv cap_wv) := row_at r_w07.out 0
  have c_w07_1 : W7.cell? ⟨g_w0, 1, none⟩ = some (.int .i64 H'.n) := row_at r_w07.out 1
  have c_w07_2 : W7.cell? ⟨g_w0, 2, none⟩ = some (.string H'.r) := row_at r_w07.out 2
  have c_x07_0 : W7.cell? ⟨W6.heap.size, 0, none⟩ = some (.slice ao_x L_x cap_x) := row_at r_x07.out 0
  have c_x07_1 : W7.cell? ⟨W6.heap.size, 1, none⟩ = some (.int .i64 hd.n) := row_at r_x07.out 1
  have c_x07_2 : W7.cell? ⟨W6.heap.size, 2, none⟩ = some (.string hd.r) := row_at r_x07.out 2
  clear r_a6 c_a6_0 c_a6_1 c_a6_2 r_h6 c_h6_0 c_h6_1 r_w06 c_w06_0 c_w06_1 c_w06_2 o_wv6 o_x6
  go_wp2_with fail
  rw [HW7.out]
  clear a_a6_0 a_a6_1 a_a6_2 a_h6_0 a_h6_1 a_w06_0 a_w06_1 a_w06_2
  refine (q3 W7 B7.out).mono ?_
  rintro e W8 ⟨v_x1, rfl, o_x18, b8⟩
  have z8 : W7.heap.size ≤ W8.heap.size := b8.size
  have B8 : Hid (Below w.heap.size w W8) := B7.out.trans (b8.mono B7.out.size)
  have r_a8 : Hid (W8.heap[w.heap.size]? = some (.cells #[.slice ao0 l.length cap0, .int .i64 hd.n, .string hd.r] 50 (0, 0))) := rowKeep r_a7.out b8
  have r_h8 : Hid (W8.heap[w.heap.size + 1]? = some (.cells #[.int .i64 h.n, .string h.r] 48 (0, 0))) := rowKeep r_h7.out b8
  have r_w08 : Hid (W8.heap[g_w0]? = some (.cells #[.slice ao_wv L_wv cap_wv, .int .i64 H'.n, .string H'.r] 28 (0, 0))) := rowKeep r_w07.out b8
  have r_x08 : Hid (W8.heap[W6.heap.size]? = some (.cells #[.slice ao_x L_x cap_x, .int .i64 hd.n, .string hd.r] 28 (0, 0))) := rowKeep r_x07.out b8
  have o_wv8 : Hid (Own W8 (lo_wv) (hi_wv) 9 (.slice ao_wv L_wv cap_wv) (ss R)) := Own.later o_wv7.out b8 (by omega)
  have o_x8 : Hid (Own W8 (W5.heap.size) (W6.heap.size) 9 (.slice ao_x L_x cap_x) (ss l)) := Own.later o_x7.out b8 (by omega)
  have c_a8_0 : W8.cell? ⟨w.heap.size, 0, none⟩ = some (.slice ao0 l.length cap0) := row_at r_a8.out 0
  have c_a8_1 : W8.cell? ⟨w.heap.size, 1, none⟩ = some (.int .i64 hd.n) := row_at r_a8.out 1
  have c_a8_2 : W8.cell? ⟨w.heap.size, 2, none⟩ = some (.string hd.r) := row_at r_a8.out 2
  have c_h8_0 : W8.cell? ⟨w.heap.size + 1, 0, none⟩ = some (.int .i64 h.n) := row_at r_h8.out 0
  have c_h8_1 : W8.cell? ⟨w.heap.size + 1, 1, none⟩ = some (.string h.r) := row_at r_h8.out 1
  have c_w08_0 : W8.cell? ⟨g_w0, 0, none⟩ = some (.slice ao_wv L_wv cap_wv) := row_at r_w08.out 0
  have c_w08_1 : W8.cell? ⟨g_w0, 1, none⟩ = some (.int .i64 H'.n) := row_at r_w08.out 1
  have c_w08_2 : W8.cell? ⟨g_w0, 2, none⟩ = some (.string H'.r) := row_at r_w08.out 2
  have c_x08_0 : W8.cell? ⟨W6.heap.size, 0, none⟩ = some (.slice ao_x L_x cap_x) := row_at r_x08.out 0
  have c_x08_1 : W8.cell? ⟨W6.heap.size, 1, none⟩ = some (.int .i64 hd.n) := row_at r_x08.out 1
  have c_x08_2 : W8.cell? ⟨W6.heap.size, 2, none⟩ = some (.string hd.r) := row_at r_x08.out 2
  clear r_a7 c_a7_0 c_a7_1 c_a7_2 r_h7 c_h7_0 c_h7_1 r_w07 c_w07_0 c_w07_1 c_w07_2 r_x07 c_x07_0 c_x07_1 c_x07_2 o_wv7 o_x7
  have f_x18 : Hid (Ohx W8 W7.heap.size W8.heap.size v_x1 t) := ⟨o_x18, Nat.le_refl _⟩
  clear o_x18
  go_wp2_with fail
  refine (Strs.to_s W8 _ x (HSX.out.later B8.out) (by omega)).mono ?_
  rintro e W9 ⟨v_x3, rfl, o_x39, b9⟩
  obtain ⟨ao_x3, L_x3, cap_x3, rfl, hL_x3, hM_x3⟩ := o_x39.form
  have o_x39 : Hid (Own W9 W8.heap.size W9.heap.size 9 (.slice ao_x3 L_x3 cap_x3) (ss x)) := o_x39
  clear hL_x3 hM_x3
  have z9 : W8.heap.size ≤ W9.heap.size := b9.size
  have B9 : Hid (Below w.heap.size w W9) := B8.out.trans (b9.mono B8.out.size)
  have r_a9 : Hid (W9.heap[w.heap.size]? = some (.cells #[.slice ao0 l.length cap0, .int .i64 hd.n, .string hd.r] 50 (0, 0))) := rowKeep r_a8.out b9
  have r_h9 : Hid (W9.heap[w.heap.size + 1]? = some (.cells #[.int .i64 h.n, .string h.r] 48 (0, 0))) := rowKeep r_h8.out b9
  have r_w09 : Hid (W9.heap[g_w0]? = some (.cells #[.slice ao_wv L_wv cap_wv, .int .i64 H'.n, .string H'.r] 28 (0, 0))) := rowKeep r_w08.out b9
  have r_x09 : Hid (W9.heap[W6.heap.size]? = some (.cells #[.slice ao_x L_x cap_x, .int .i64 hd.n, .string hd.r] 28 (0, 0))) := rowKeep r_x08.out b9
  have o_wv9 : Hid (Own W9 (lo_wv) (hi_wv) 9 (.slice ao_wv L_wv cap_wv) (ss R)) := Own.later o_wv8.out b9 (by omega)
  have o_x9 : Hid (Own W9 (W5.heap.size) (W6.heap.size) 9 (.slice ao_x L_x cap_x) (ss l)) := Own.later o_x8.out b9 (by omega)
  have c_a9_0 : W9.cell? ⟨w.heap.size, 0, none⟩ = some (.slice ao0 l.length cap0) := row_at r_a9.out 0
  have c_a9_1 : W9.cell? ⟨w.heap.size, 1, none⟩ = some (.int .i64 hd.n) := row_at r_a9.out 1
  have c_a9_2 : W9.cell? ⟨w.heap.size, 2, none⟩ = some (.string hd.r) := row_at r_a9.out 2
  have c_h9_0 : W9.cell? ⟨w.heap.size + 1, 0, none⟩ = some (.int .i64 h.n) := row_at r_h9.out 0
  have c_h9_1 : W9.cell? ⟨w.heap.size + 1, 1, none⟩ = some (.string h.r) := row_at r_h9.out 1
  have c_w09_0 : W9.cell? ⟨g_w0, 0, none⟩ = some (.slice ao_wv L_wv cap_wv) := row_at r_w09.out 0
  have c_w09_1 : W9.cell? ⟨g_w0, 1, none⟩ = some (.int .i64 H'.n) := row_at r_w09.out 1
  have c_w09_2 : W9.cell? ⟨g_w0, 2, none⟩ = some (.string H'.r) := row_at r_w09.out 2
  have c_x09_0 : W9.cell? ⟨W6.heap.size, 0, none⟩ = some (.slice ao_x L_x cap_x) := row_at r_x09.out 0
  have c_x09_1 : W9.cell? ⟨W6.heap.size, 1, none⟩ = some (.int .i64 hd.n) := row_at r_x09.out 1
  have c_x09_2 : W9.cell? ⟨W6.heap.size, 2, none⟩ = some (.string hd.r) := row_at r_x09.out 2
  clear r_a8 c_a8_0 c_a8_1 c_a8_2 r_h8 c_h8_0 c_h8_1 r_w08 c_w08_0 c_w08_1 c_w08_2 r_x08 c_x08_0 c_x08_1 c_x08_2 o_wv8 o_x8
  have f_x19 : Hid (Ohx W9 W7.heap.size W8.heap.size v_x1 t) := Ohx.later f_x18.out b9
  clear f_x18
  go_upto_region 18 with fail
  go_cut [15, 16] (fun s15 s16 wx => ∃ g : Nat, s15 = .pointer (some ⟨g, 0, none⟩) ∧ s16 = .int .i64 c ∧ W9.heap.size ≤ g ∧ g < wx.heap.size ∧ Below W9.heap.size W9 wx ∧ ∃ lo hi ao L cap, W9.heap.size ≤ lo ∧ hi ≤ wx.heap.size ∧ (g < lo ∨ hi ≤ g) ∧ wx.heap[g]? = some (.cells #[.slice ao L cap, .int .i64 H'.n, .string H'.r] 28 (0, 0)) ∧ Own wx lo hi 9 (.slice ao L cap) (ss R))
  case first =>
    have D9 : Hid (Below W9.heap.size W9 W9) := Below.refl _ _
    refine wp_region_held_drew (S := fun w' => w'.cell? ⟨W6.heap.size, 0, none⟩ = some (.slice ao_x L_x cap_x) ∧ w'.cell? ⟨W6.heap.size, 1, none⟩ = some (.int .i64 hd.n) ∧ w'.cell? ⟨W6.heap.size, 2, none⟩ = some (.string hd.r) ∧ w'.cell? ⟨w.heap.size + 1, 0, none⟩ = some (.int .i64 h.n) ∧ w'.cell? ⟨w.heap.size + 1, 1, none⟩ = some (.string h.r)) (by kernel_rfl) ⟨c_x09_0, c_x09_1, c_x09_2, c_h9_0, c_h9_1⟩ (fun hHeld => ?_)
    (refine wpAnyH_take (i := 0) (v := ?v0x38) rfl (by kernel_rfl) (by kernel_rfl) (by kernel_rfl) (fun _ _ _ h => h) (Or.inl ⟨by rfl, ?hy0x38⟩) (by assumption) ?rest0x38; case hy0x38 => (intro w hSw; (try dsimp only at hSw); go_split_ands; go_simp; (try with_reducible rfl)))
    try simp only [Act.put, List.setIfInBounds_toArray, List.set_cons_zero, List.set_cons_succ, List.getElem_toArray, List.getElem_cons_zero, List.getElem_cons_succ]
    (refine wpAnyH_take (i := 1) (v := ?v1x39) rfl (by kernel_rfl) (by kernel_rfl) (by kernel_rfl) (fun _ _ _ h => h) (Or.inl ⟨by rfl, ?hy1x39⟩) (by assumption) ?rest1x39; case hy1x39 => (intro w hSw; (try dsimp only at hSw); go_split_ands; go_simp; (try with_reducible rfl)))
    try simp only [Act.put, List.setIfInBounds_toArray, List.set_cons_zero, List.set_cons_succ, List.getElem_toArray, List.getElem_cons_zero, List.getElem_cons_succ]
    (refine wpAnyH_take (i := 2) (v := ?v2x40) rfl (by kernel_rfl) (by kernel_rfl) (by kernel_rfl) (fun _ _ _ h => h) (Or.inl ⟨by rfl, ?hy2x40⟩) (by assumption) ?rest2x40; case hy2x40 => (intro w hSw; (try dsimp only at hSw); go_split_ands; go_simp; (try with_reducible rfl)))
    try simp only [Act.put, List.setIfInBounds_toArray, List.set_cons_zero, List.set_cons_succ, List.getElem_toArray, List.getElem_cons_zero, List.getElem_cons_succ]
    (refine wpAnyH_take (i := 4) (v := ?v4x41) rfl (by kernel_rfl) (by kernel_rfl) (by kernel_rfl) (fun _ _ _ h => h) (Or.inl ⟨by rfl, ?hy4x41⟩) (by assumption) ?rest4x41; case hy4x41 => (intro w hSw; (try dsimp only at hSw); go_split_ands; go_simp; (try with_reducible rfl)))
    try simp only [Act.put, List.setIfInBounds_toArray, List.set_cons_zero, List.set_cons_succ, List.getElem_toArray, List.getElem_cons_zero, List.getElem_cons_succ]
    clear r_a9 c_a9_0 c_a9_1 c_a9_2
    clear r_h9 c_h9_0 c_h9_1
    clear r_w09 c_w09_0 c_w09_1 c_w09_2
    clear r_x09 c_x09_0 c_x09_1 c_x09_2
    clear o_wv9
    refine wpAnyH_ready (rs := [3, 9]) (by kernel_rfl) (by simp) ?_
    refine AllReadyH.cons rfl (fun K hK => ?_) (AllReadyH.cons rfl (fun K hK => ?_) AllReadyH.nil)
    · go_simp
      refine (to_head W9.drew h).mono ?_
      rintro e W10 ⟨rfl, b10⟩
      have b10 : Below W9.heap.size W9 W10 := (Below.drew (Below.refl _ _)).trans b10
      refine hK.out _ _ ⟨(keepR (W := W9) hHeld.1 b10), (keepR (W := W9) hHeld.2.1 b10), (keepR (W := W9) hHeld.2.2.1 b10), (keepR (W := W9) hHeld.2.2.2.1 b10), (keepR (W := W9) hHeld.2.2.2.2 b10)⟩ (fun hHeld => ?_)
      clear hK K
      try simp only [Act.put, List.setIfInBounds_toArray, List.set_cons_zero, List.set_cons_succ, List.getElem_toArray, List.getElem_cons_zero, List.getElem_cons_succ]
      have z10 : W9.heap.size ≤ W10.heap.size := b10.size
      have B10 : Hid (Below w.heap.size w W10) := B9.out.trans (b10.mono B9.out.size)
      have o_x10 : Hid (Own W10 (W5.heap.size) (W6.heap.size) 9 (.slice ao_x L_x cap_x) (ss l)) := Own.later o_x9.out b10 (by omega)
      have o_x310 : Hid (Own W10 (W8.heap.size) (W9.heap.size) 9 (.slice ao_x3 L_x3 cap_x3) (ss x)) := Own.later o_x39.out b10 (by omega)
      clear o_x9 o_x39
      have f_x110 : Hid (Ohx W10 W7.heap.size W8.heap.size v_x1 t) := Ohx.later f_x19.out b10
      clear f_x19
      have D10 : Hid (Below W9.heap.size W9 W10) := D9.out.trans (b10.mono D9.out.size)
      refine wpAnyH_ready (rs := [5, 9]) (by kernel_rfl) (by simp) ?_
      refine AllReadyH.cons rfl (fun K hK => ?_) (AllReadyH.cons rfl (fun K hK => ?_) AllReadyH.nil)
      · go_simp
        refine (q2 W10 _ _ _ B10.out o_x10.out.sl f_x110.out.1.sh o_x310.out.sl).mono ?_
        rintro e W11 ⟨v_gv, rfl, o_gv11, b11⟩
        refine hK.out _ _ ⟨(keepR (W := W10) hHeld.1 b11), (keepR (W := W10) hHeld.2.1 b11), (keepR (W := W10) hHeld.2.2.1 b11), (keepR (W := W10) hHeld.2.2.2.1 b11), (keepR (W := W10) hHeld.2.2.2.2 b11)⟩ (fun hHeld => ?_)
        clear hK K
        try simp only [Act.put, List.setIfInBounds_toArray, List.set_cons_zero, List.set_cons_succ, List.getElem_toArray, List.getElem_cons_zero, List.getElem_cons_succ]
        obtain ⟨ao_gv, L_gv, cap_gv, rfl, hL_gv, hM_gv⟩ := o_gv11.form
        have o_gv11 : Hid (Own W11 W10.heap.size W11.heap.size 9 (.slice ao_gv L_gv cap_gv) (ss R)) := o_gv11
        clear hL_gv hM_gv
        have z11 : W10.heap.size ≤ W11.heap.size := b11.size
        have B11 : Hid (Below w.heap.size w W11) := B10.out.trans (b11.mono B10.out.size)
        have o_x11 : Hid (Own W11 (W5.heap.size) (W6.heap.size) 9 (.slice ao_x L_x cap_x) (ss l)) := Own.later o_x10.out b11 (by omega)
        have o_x311 : Hid (Own W11 (W8.heap.size) (W9.heap.size) 9 (.slice ao_x3 L_x3 cap_x3) (ss x)) := Own.later o_x310.out b11 (by omega)
        clear o_x10 o_x310
        have f_x111 : Hid (Ohx W11 W7.heap.size W8.heap.size v_x1 t) := Ohx.later f_x110.out b11
        clear f_x110
        have D11 : Hid (Below W9.heap.size W9 W11) := D10.out.trans (b11.mono D10.out.size)
        (refine wpAnyH_take (i := 6) (v := ?v6x42) rfl (by kernel_rfl) (by kernel_rfl) (by kernel_rfl) (fun _ _ _ h => h) (Or.inl ⟨by rfl, ?hy6x42⟩) (by assumption) ?rest6x42; case hy6x42 => (intro w hSw; (try dsimp only at hSw); go_split_ands; go_simp; (try with_reducible rfl)))
        try simp only [Act.put, List.setIfInBounds_toArray, List.set_cons_zero, List.set_cons_succ, List.getElem_toArray, List.getElem_cons_zero, List.getElem_cons_succ]
        (refine wpAnyH_take (i := 7) (v := ?v7x43) rfl (by kernel_rfl) (by kernel_rfl) (by kernel_rfl) (fun _ _ _ h => h) (Or.inl ⟨by rfl, ?hy7x43⟩) (by assumption) ?rest7x43; case hy7x43 => (intro w hSw; (try dsimp only at hSw); go_split_ands; go_simp; (try with_reducible rfl)))
        try simp only [Act.put, List.setIfInBounds_toArray, List.set_cons_zero, List.set_cons_succ, List.getElem_toArray, List.getElem_cons_zero, List.getElem_cons_succ]
        (refine wpAnyH_take (i := 8) (v := ?v8x44) rfl (by kernel_rfl) (by kernel_rfl) (by kernel_rfl) (fun _ _ _ h => h) (Or.inl ⟨by rfl, ?hy8x44⟩) (by assumption) ?rest8x44; case hy8x44 => (intro w hSw; (try dsimp only at hSw); go_split_ands; go_simp; (try with_reducible rfl)))
        try simp only [Act.put, List.setIfInBounds_toArray, List.set_cons_zero, List.set_cons_succ, List.getElem_toArray, List.getElem_cons_zero, List.getElem_cons_succ]
        refine wpAnyH_ready (rs := [9]) (by kernel_rfl) (by simp) ?_
        refine AllReadyH.cons rfl (fun K hK => ?_) AllReadyH.nil
        go_simp
        refine hK.out _ _ ⟨(keepR (W := W11) hHeld.1 ((Below.refl _ _).alloc (Nat.le_refl _) _)), (keepR (W := W11) hHeld.2.1 ((Below.refl _ _).alloc (Nat.le_refl _) _)), (keepR (W := W11) hHeld.2.2.1 ((Below.refl _ _).alloc (Nat.le_refl _) _)), (keepR (W := W11) hHeld.2.2.2.1 ((Below.refl _ _).alloc (Nat.le_refl _) _)), (keepR (W := W11) hHeld.2.2.2.2 ((Below.refl _ _).alloc (Nat.le_refl _) _))⟩ (fun hHeld => ?_)
        clear hK K
        try simp only [Act.put, List.setIfInBounds_toArray, List.set_cons_zero, List.set_cons_succ, List.getElem_toArray, List.getElem_cons_zero, List.getElem_cons_succ]
        obtain ⟨W12, HW12, b12, y12, r_g012⟩ : ∃ X, Hid ((W11.alloc (.cells #[.slice none 0 0, .int .i64 0, .string ⟨#[]⟩] 28)) = X) ∧ Below W11.heap.size W11 X ∧ W11.heap.size + 1 ≤ X.heap.size ∧ Hid (X.heap[W11.heap.size]? = some (.cells #[.slice none 0 0, .int .i64 0, .string ⟨#[]⟩] 28 (0, 0))) := ⟨_, rfl, ((Below.refl _ _).alloc (Nat.le_refl _) _), (by show _ ≤ (W11.heap.push _).size; simp), heap_alloc_new W11 _⟩
        have HHW12 := HW12.out
        rw [HHW12] at hHeld ⊢
        clear HHW12
        have z12 : W11.heap.size ≤ W12.heap.size := b12.size
        have B12 : Hid (Below w.heap.size w W12) := B11.out.trans (b12.mono B11.out.size)
        have o_x12 : Hid (Own W12 (W5.heap.size) (W6.heap.size) 9 (.slice ao_x L_x cap_x) (ss l)) := Own.later o_x11.out b12 (by omega)
        have o_x312 : Hid (Own W12 (W8.heap.size) (W9.heap.size) 9 (.slice ao_x3 L_x3 cap_x3) (ss x)) := Own.later o_x311.out b12 (by omega)
        have o_gv12 : Hid (Own W12 (W10.heap.size) (W11.heap.size) 9 (.slice ao_gv L_gv cap_gv) (ss R)) := Own.later o_gv11.out b12 (by omega)
        have c_g012_0 : W12.cell? ⟨W11.heap.size, 0, none⟩ = some (.slice none 0 0) := row_at r_g012.out 0
        have c_g012_1 : W12.cell? ⟨W11.heap.size, 1, none⟩ = some (.int .i64 0) := row_at r_g012.out 1
        have c_g012_2 : W12.cell? ⟨W11.heap.size, 2, none⟩ = some (.string ⟨#[]⟩) := row_at r_g012.out 2
        clear o_x11 o_x311 o_gv11
        have f_x112 : Hid (Ohx W12 W7.heap.size W8.heap.size v_x1 t) := Ohx.later f_x111.out b12
        clear f_x111
        have D12 : Hid (Below W9.heap.size W9 W12) := D11.out.trans (b12.mono D11.out.size)
        refine wpAnyH_ready (rs := [10]) (by kernel_rfl) (by simp) ?_
        refine AllReadyH.cons rfl (fun K hK => ?_) AllReadyH.nil
        rw [if_pos (by rfl)]
        refine wp_store_row 28 _ _ rfl (W11.heap.size) (lc (.slice ao_gv L_gv cap_gv) H') rfl rfl 28 _ r_g012.out (sizeL _ _) rfl (oneL _ rfl) ?_
        refine hK.out _ _ ⟨(cell_row (by show W6.heap.size ≠ W11.heap.size; omega) hHeld.1), (cell_row (by show W6.heap.size ≠ W11.heap.size; omega) hHeld.2.1), (cell_row (by show W6.heap.size ≠ W11.heap.size; omega) hHeld.2.2.1), (cell_row (by show w.heap.size + 1 ≠ W11.heap.size; omega) hHeld.2.2.2.1), (cell_row (by show w.heap.size + 1 ≠ W11.heap.size; omega) hHeld.2.2.2.2)⟩ (fun hHeld => ?_)
        clear hK K
        try simp only [Act.put, List.setIfInBounds_toArray, List.set_cons_zero, List.set_cons_succ, List.getElem_toArray, List.getElem_cons_zero, List.getElem_cons_succ]
        have D13a : Below W9.heap.size W9 (W12.setRow (W11.heap.size) (lc (.slice ao_gv L_gv cap_gv) H')) := below_setRow D12.out (by omega) _
        obtain ⟨W13, HW13⟩ : ∃ X, Hid (W12.setRow (W11.heap.size) (lc (.slice ao_gv L_gv cap_gv) H') = X) := ⟨_, rfl⟩
        have z13 : W12.heap.size ≤ W13.heap.size := by rw [← HW13.out]; simp
        have B13 : Hid (Below w.heap.size w W13) := by show Below _ _ _; rw [← HW13.out]; exact below_setRow B12.out (by have := B12.out.size; omega) _
        have o_x13 : Hid (Own W13 (W5.heap.size) (W6.heap.size) 9 (.slice ao_x L_x cap_x) (ss l)) := by show Own _ _ _ _ _ _; rw [← HW13.out]; exact Own.setRow o_x12.out _ (by omega)
        have o_x313 : Hid (Own W13 (W8.heap.size) (W9.heap.size) 9 (.slice ao_x3 L_x3 cap_x3) (ss x)) := by show Own _ _ _ _ _ _; rw [← HW13.out]; exact Own.setRow o_x312.out _ (by omega)
        have o_gv13 : Hid (Own W13 (W10.heap.size) (W11.heap.size) 9 (.slice ao_gv L_gv cap_gv) (ss R)) := by show Own _ _ _ _ _ _; rw [← HW13.out]; exact Own.setRow o_gv12.out _ (by omega)
        have r_g013 : Hid (W13.heap[W11.heap.size]? = some (.cells #[.slice ao_gv L_gv cap_gv, .int .i64 H'.n, .string H'.r] 28 (0, 0))) := by show _ = _; rw [← HW13.out]; exact setRow_heap _ _ _ _ _ (0, 0) r_g012.out
        rw [HW13.out]
        clear r_g012 c_g012_0 c_g012_1 c_g012_2 o_x12 o_x312 o_gv12
        have c_g013_0 : W13.cell? ⟨W11.heap.size, 0, none⟩ = some (.slice ao_gv L_gv cap_gv) := row_at r_g013.out 0
        have c_g013_1 : W13.cell? ⟨W11.heap.size, 1, none⟩ = some (.int .i64 H'.n) := row_at r_g013.out 1
        have c_g013_2 : W13.cell? ⟨W11.heap.size, 2, none⟩ = some (.string H'.r) := row_at r_g013.out 2
        rw [HW13.out] at hHeld
        have D13 : Hid (Below W9.heap.size W9 W13) := by show Below _ _ _; rw [← HW13.out]; exact D13a
        (refine wpAnyH_take (i := 11) (v := ?v11x45) rfl (by kernel_rfl) (by kernel_rfl) (by kernel_rfl) (fun _ _ _ h => h) (Or.inl ⟨by rfl, ?hy11x45⟩) (by assumption) ?rest11x45; case hy11x45 => (intro w hSw; (try dsimp only at hSw); go_split_ands; go_simp; (try with_reducible rfl)))
        try simp only [Act.put, List.setIfInBounds_toArray, List.set_cons_zero, List.set_cons_succ, List.getElem_toArray, List.getElem_cons_zero, List.getElem_cons_succ]
        refine wpAnyH_done (by kernel_rfl) ?_ _
        clear hHeld
        go_wp2_with fail
        go_meet
        exact ⟨W11.heap.size, rfl, rfl, by omega, (Array.getElem?_eq_some_iff.1 r_g013.out).1, D13.out, W10.heap.size, W11.heap.size, ao_gv, L_gv, cap_gv, by omega, by omega, by omega, r_g013.out, o_gv13.out⟩
      · go_simp
        refine hK.out _ _ ⟨(keepR (W := W10) hHeld.1 ((Below.refl _ _).alloc (Nat.le_refl _) _)), (keepR (W := W10) hHeld.2.1 ((Below.refl _ _).alloc (Nat.le_refl _) _)), (keepR (W := W10) hHeld.2.2.1 ((Below.refl _ _).alloc (Nat.le_refl _) _)), (keepR (W := W10) hHeld.2.2.2.1 ((Below.refl _ _).alloc (Nat.le_refl _) _)), (keepR (W := W10) hHeld.2.2.2.2 ((Below.refl _ _).alloc (Nat.le_refl _) _))⟩ (fun hHeld => ?_)
        clear hK K
        try simp only [Act.put, List.setIfInBounds_toArray, List.set_cons_zero, List.set_cons_succ, List.getElem_toArray, List.getElem_cons_zero, List.getElem_cons_succ]
        obtain ⟨W11, HW11, b11, y11, r_g011⟩ : ∃ X, Hid ((W10.alloc (.cells #[.slice none 0 0, .int .i64 0, .string ⟨#[]⟩] 28)) = X) ∧ Below W10.heap.size W10 X ∧ W10.heap.size + 1 ≤ X.heap.size ∧ Hid (X.heap[W10.heap.size]? = some (.cells #[.slice none 0 0, .int .i64 0, .string ⟨#[]⟩] 28 (0, 0))) := ⟨_, rfl, ((Below.refl _ _).alloc (Nat.le_refl _) _), (by show _ ≤ (W10.heap.push _).size; simp), heap_alloc_new W10 _⟩
        have HHW11 := HW11.out
        rw [HHW11] at hHeld ⊢
        clear HHW11
        have z11 : W10.heap.size ≤ W11.heap.size := b11.size
        have B11 : Hid (Below w.heap.size w W11) := B10.out.trans (b11.mono B10.out.size)
        have o_x11 : Hid (Own W11 (W5.heap.size) (W6.heap.size) 9 (.slice ao_x L_x cap_x) (ss l)) := Own.later o_x10.out b11 (by omega)
        have o_x311 : Hid (Own W11 (W8.heap.size) (W9.heap.size) 9 (.slice ao_x3 L_x3 cap_x3) (ss x)) := Own.later o_x310.out b11 (by omega)
        have c_g011_0 : W11.cell? ⟨W10.heap.size, 0, none⟩ = some (.slice none 0 0) := row_at r_g011.out 0
        have c_g011_1 : W11.cell? ⟨W10.heap.size, 1, none⟩ = some (.int .i64 0) := row_at r_g011.out 1
        have c_g011_2 : W11.cell? ⟨W10.heap.size, 2, none⟩ = some (.string ⟨#[]⟩) := row_at r_g011.out 2
        clear o_x10 o_x310
        have f_x111 : Hid (Ohx W11 W7.heap.size W8.heap.size v_x1 t) := Ohx.later f_x110.out b11
        clear f_x110
        have D11 : Hid (Below W9.heap.size W9 W11) := D10.out.trans (b11.mono D10.out.size)
        refine wpAnyH_ready (rs := [5]) (by kernel_rfl) (by simp) ?_
        refine AllReadyH.cons rfl (fun K hK => ?_) AllReadyH.nil
        go_simp
        refine (q2 W11 _ _ _ B11.out o_x11.out.sl f_x111.out.1.sh o_x311.out.sl).mono ?_
        rintro e W12 ⟨v_gv, rfl, o_gv12, b12⟩
        refine hK.out _ _ ⟨(keepR (W := W11) hHeld.1 b12), (keepR (W := W11) hHeld.2.1 b12), (keepR (W := W11) hHeld.2.2.1 b12), (keepR (W := W11) hHeld.2.2.2.1 b12), (keepR (W := W11) hHeld.2.2.2.2 b12)⟩ (fun hHeld => ?_)
        clear hK K
        try simp only [Act.put, List.setIfInBounds_toArray, List.set_cons_zero, List.set_cons_succ, List.getElem_toArray, List.getElem_cons_zero, List.getElem_cons_succ]
        obtain ⟨ao_gv, L_gv, cap_gv, rfl, hL_gv, hM_gv⟩ := o_gv12.form
        have o_gv12 : Hid (Own W12 W11.heap.size W12.heap.size 9 (.slice ao_gv L_gv cap_gv) (ss R)) := o_gv12
        clear hL_gv hM_gv
        have z12 : W11.heap.size ≤ W12.heap.size := b12.size
        have B12 : Hid (Below w.heap.size w W12) := B11.out.trans (b12.mono B11.out.size)
        have r_g012 : Hid (W12.heap[W10.heap.size]? = some (.cells #[.slice none 0 0, .int .i64 0, .string ⟨#[]⟩] 28 (0, 0))) := rowKeep r_g011.out b12
        have o_x12 : Hid (Own W12 (W5.heap.size) (W6.heap.size) 9 (.slice ao_x L_x cap_x) (ss l)) := Own.later o_x11.out b12 (by omega)
        have o_x312 : Hid (Own W12 (W8.heap.size) (W9.heap.size) 9 (.slice ao_x3 L_x3 cap_x3) (ss x)) := Own.later o_x311.out b12 (by omega)
        have c_g012_0 : W12.cell? ⟨W10.heap.size, 0, none⟩ = some (.slice none 0 0) := row_at r_g012.out 0
        have c_g012_1 : W12.cell? ⟨W10.heap.size, 1, none⟩ = some (.int .i64 0) := row_at r_g012.out 1
        have c_g012_2 : W12.cell? ⟨W10.heap.size, 2, none⟩ = some (.string ⟨#[]⟩) := row_at r_g012.out 2
        clear r_g011 c_g011_0 c_g011_1 c_g011_2 o_x11 o_x311
        have f_x112 : Hid (Ohx W12 W7.heap.size W8.heap.size v_x1 t) := Ohx.later f_x111.out b12
        clear f_x111
        have D12 : Hid (Below W9.heap.size W9 W12) := D11.out.trans (b12.mono D11.out.size)
        (refine wpAnyH_take (i := 6) (v := ?v6x46) rfl (by kernel_rfl) (by kernel_rfl) (by kernel_rfl) (fun _ _ _ h => h) (Or.inl ⟨by rfl, ?hy6x46⟩) (by assumption) ?rest6x46; case hy6x46 => (intro w hSw; (try dsimp only at hSw); go_split_ands; go_simp; (try with_reducible rfl)))
        try simp only [Act.put, List.setIfInBounds_toArray, List.set_cons_zero, List.set_cons_succ, List.getElem_toArray, List.getElem_cons_zero, List.getElem_cons_succ]
        (refine wpAnyH_take (i := 7) (v := ?v7x47) rfl (by kernel_rfl) (by kernel_rfl) (by kernel_rfl) (fun _ _ _ h => h) (Or.inl ⟨by rfl, ?hy7x47⟩) (by assumption) ?rest7x47; case hy7x47 => (intro w hSw; (try dsimp only at hSw); go_split_ands; go_simp; (try with_reducible rfl)))
        try simp only [Act.put, List.setIfInBounds_toArray, List.set_cons_zero, List.set_cons_succ, List.getElem_toArray, List.getElem_cons_zero, List.getElem_cons_succ]
        (refine wpAnyH_take (i := 8) (v := ?v8x48) rfl (by kernel_rfl) (by kernel_rfl) (by kernel_rfl) (fun _ _ _ h => h) (Or.inl ⟨by rfl, ?hy8x48⟩) (by assumption) ?rest8x48; case hy8x48 => (intro w hSw; (try dsimp only at hSw); go_split_ands; go_simp; (try with_reducible rfl)))
        try simp only [Act.put, List.setIfInBounds_toArray, List.set_cons_zero, List.set_cons_succ, List.getElem_toArray, List.getElem_cons_zero, List.getElem_cons_succ]
        refine wpAnyH_ready (rs := [10]) (by kernel_rfl) (by simp) ?_
        refine AllReadyH.cons rfl (fun K hK => ?_) AllReadyH.nil
        rw [if_pos (by rfl)]
        refine wp_store_row 28 _ _ rfl (W10.heap.size) (lc (.slice ao_gv L_gv cap_gv) H') rfl rfl 28 _ r_g012.out (sizeL _ _) rfl (oneL _ rfl) ?_
        refine hK.out _ _ ⟨(cell_row (by show W6.heap.size ≠ W10.heap.size; omega) hHeld.1), (cell_row (by show W6.heap.size ≠ W10.heap.size; omega) hHeld.2.1), (cell_row (by show W6.heap.size ≠ W10.heap.size; omega) hHeld.2.2.1), (cell_row (by show w.heap.size + 1 ≠ W10.heap.size; omega) hHeld.2.2.2.1), (cell_row (by show w.heap.size + 1 ≠ W10.heap.size; omega) hHeld.2.2.2.2)⟩ (fun hHeld => ?_)
        clear hK K
        try simp only [Act.put, List.setIfInBounds_toArray, List.set_cons_zero, List.set_cons_succ, List.getElem_toArray, List.getElem_cons_zero, List.getElem_cons_succ]
        have D13a : Below W9.heap.size W9 (W12.setRow (W10.heap.size) (lc (.slice ao_gv L_gv cap_gv) H')) := below_setRow D12.out (by omega) _
        obtain ⟨W13, HW13⟩ : ∃ X, Hid (W12.setRow (W10.heap.size) (lc (.slice ao_gv L_gv cap_gv) H') = X) := ⟨_, rfl⟩
        have z13 : W12.heap.size ≤ W13.heap.size := by rw [← HW13.out]; simp
        have B13 : Hid (Below w.heap.size w W13) := by show Below _ _ _; rw [← HW13.out]; exact below_setRow B12.out (by have := B12.out.size; omega) _
        have o_x13 : Hid (Own W13 (W5.heap.size) (W6.heap.size) 9 (.slice ao_x L_x cap_x) (ss l)) := by show Own _ _ _ _ _ _; rw [← HW13.out]; exact Own.setRow o_x12.out _ (by omega)
        have o_x313 : Hid (Own W13 (W8.heap.size) (W9.heap.size) 9 (.slice ao_x3 L_x3 cap_x3) (ss x)) := by show Own _ _ _ _ _ _; rw [← HW13.out]; exact Own.setRow o_x312.out _ (by omega)
        have o_gv13 : Hid (Own W13 (W11.heap.size) (W12.heap.size) 9 (.slice ao_gv L_gv cap_gv) (ss R)) := by show Own _ _ _ _ _ _; rw [← HW13.out]; exact Own.setRow o_gv12.out _ (by omega)
        have r_g013 : Hid (W13.heap[W10.heap.size]? = some (.cells #[.slice ao_gv L_gv cap_gv, .int .i64 H'.n, .string H'.r] 28 (0, 0))) := by show _ = _; rw [← HW13.out]; exact setRow_heap _ _ _ _ _ (0, 0) r_g012.out
        rw [HW13.out]
        clear r_g012 c_g012_0 c_g012_1 c_g012_2 o_x12 o_x312 o_gv12
        have c_g013_0 : W13.cell? ⟨W10.heap.size, 0, none⟩ = some (.slice ao_gv L_gv cap_gv) := row_at r_g013.out 0
        have c_g013_1 : W13.cell? ⟨W10.heap.size, 1, none⟩ = some (.int .i64 H'.n) := row_at r_g013.out 1
        have c_g013_2 : W13.cell? ⟨W10.heap.size, 2, none⟩ = some (.string H'.r) := row_at r_g013.out 2
        rw [HW13.out] at hHeld
        have D13 : Hid (Below W9.heap.size W9 W13) := by show Below _ _ _; rw [← HW13.out]; exact D13a
        (refine wpAnyH_take (i := 11) (v := ?v11x49) rfl (by kernel_rfl) (by kernel_rfl) (by kernel_rfl) (fun _ _ _ h => h) (Or.inl ⟨by rfl, ?hy11x49⟩) (by assumption) ?rest11x49; case hy11x49 => (intro w hSw; (try dsimp only at hSw); go_split_ands; go_simp; (try with_reducible rfl)))
        try simp only [Act.put, List.setIfInBounds_toArray, List.set_cons_zero, List.set_cons_succ, List.getElem_toArray, List.getElem_cons_zero, List.getElem_cons_succ]
        refine wpAnyH_done (by kernel_rfl) ?_ _
        clear hHeld
        go_wp2_with fail
        go_meet
        exact ⟨W10.heap.size, rfl, rfl, by omega, (Array.getElem?_eq_some_iff.1 r_g013.out).1, D13.out, W11.heap.size, W12.heap.size, ao_gv, L_gv, cap_gv, by omega, by omega, by omega, r_g013.out, o_gv13.out⟩
    · go_simp
      refine hK.out _ _ ⟨(keepR (W := W9.drew) hHeld.1 ((Below.refl _ _).alloc (Nat.le_refl _) _)), (keepR (W := W9.drew) hHeld.2.1 ((Below.refl _ _).alloc (Nat.le_refl _) _)), (keepR (W := W9.drew) hHeld.2.2.1 ((Below.refl _ _).alloc (Nat.le_refl _) _)), (keepR (W := W9.drew) hHeld.2.2.2.1 ((Below.refl _ _).alloc (Nat.le_refl _) _)), (keepR (W := W9.drew) hHeld.2.2.2.2 ((Below.refl _ _).alloc (Nat.le_refl _) _))⟩ (fun hHeld => ?_)
      clear hK K
      try simp only [Act.put, List.setIfInBounds_toArray, List.set_cons_zero, List.set_cons_succ, List.getElem_toArray, List.getElem_cons_zero, List.getElem_cons_succ]
      obtain ⟨W10, HW10, b10, y10, r_g010⟩ : ∃ X, Hid ((W9.alloc (.cells #[.slice none 0 0, .int .i64 0, .string ⟨#[]⟩] 28)).drew = X) ∧ Below W9.heap.size W9 X ∧ W9.heap.size + 1 ≤ X.heap.size ∧ Hid (X.heap[W9.heap.size]? = some (.cells #[.slice none 0 0, .int .i64 0, .string ⟨#[]⟩] 28 (0, 0))) := ⟨_, rfl, (Below.drew ((Below.refl _ _).alloc (Nat.le_refl _) _)), (by show _ ≤ (W9.heap.push _).size; simp), heap_alloc_new W9 _⟩
      have HHW10 := HW10.out
      rw [HHW10] at hHeld ⊢
      clear HHW10
      have z10 : W9.heap.size ≤ W10.heap.size := b10.size
      have B10 : Hid (Below w.heap.size w W10) := B9.out.trans (b10.mono B9.out.size)
      have o_x10 : Hid (Own W10 (W5.heap.size) (W6.heap.size) 9 (.slice ao_x L_x cap_x) (ss l)) := Own.later o_x9.out b10 (by omega)
      have o_x310 : Hid (Own W10 (W8.heap.size) (W9.heap.size) 9 (.slice ao_x3 L_x3 cap_x3) (ss x)) := Own.later o_x39.out b10 (by omega)
      have c_g010_0 : W10.cell? ⟨W9.heap.size, 0, none⟩ = some (.slice none 0 0) := row_at r_g010.out 0
      have c_g010_1 : W10.cell? ⟨W9.heap.size, 1, none⟩ = some (.int .i64 0) := row_at r_g010.out 1
      have c_g010_2 : W10.cell? ⟨W9.heap.size, 2, none⟩ = some (.string ⟨#[]⟩) := row_at r_g010.out 2
      clear o_x9 o_x39
      have f_x110 : Hid (Ohx W10 W7.heap.size W8.heap.size v_x1 t) := Ohx.later f_x19.out b10
      clear f_x19
      have D10 : Hid (Below W9.heap.size W9 W10) := D9.out.trans (b10.mono D9.out.size)
      refine wpAnyH_ready (rs := [3]) (by kernel_rfl) (by simp) ?_
      refine AllReadyH.cons rfl (fun K hK => ?_) AllReadyH.nil
      go_simp
      refine (to_head W10 h).mono ?_
      rintro e W11 ⟨rfl, b11⟩
      refine hK.out _ _ ⟨(keepR (W := W10) hHeld.1 b11), (keepR (W := W10) hHeld.2.1 b11), (keepR (W := W10) hHeld.2.2.1 b11), (keepR (W := W10) hHeld.2.2.2.1 b11), (keepR (W := W10) hHeld.2.2.2.2 b11)⟩ (fun hHeld => ?_)
      clear hK K
      try simp only [Act.put, List.setIfInBounds_toArray, List.set_cons_zero, List.set_cons_succ, List.getElem_toArray, List.getElem_cons_zero, List.getElem_cons_succ]
      have z11 : W10.heap.size ≤ W11.heap.size := b11.size
      have B11 : Hid (Below w.heap.size w W11) := B10.out.trans (b11.mono B10.out.size)
      have r_g011 : Hid (W11.heap[W9.heap.size]? = some (.cells #[.slice none 0 0, .int .i64 0, .string ⟨#[]⟩] 28 (0, 0))) := rowKeep r_g010.out b11
      have o_x11 : Hid (Own W11 (W5.heap.size) (W6.heap.size) 9 (.slice ao_x L_x cap_x) (ss l)) := Own.later o_x10.out b11 (by omega)
      have o_x311 : Hid (Own W11 (W8.heap.size) (W9.heap.size) 9 (.slice ao_x3 L_x3 cap_x3) (ss x)) := Own.later o_x310.out b11 (by omega)
      have c_g011_0 : W11.cell? ⟨W9.heap.size, 0, none⟩ = some (.slice none 0 0) := row_at r_g011.out 0
      have c_g011_1 : W11.cell? ⟨W9.heap.size, 1, none⟩ = some (.int .i64 0) := row_at r_g011.out 1
      have c_g011_2 : W11.cell? ⟨W9.heap.size, 2, none⟩ = some (.string ⟨#[]⟩) := row_at r_g011.out 2
      clear r_g010 c_g010_0 c_g010_1 c_g010_2 o_x10 o_x310
      have f_x111 : Hid (Ohx W11 W7.heap.size W8.heap.size v_x1 t) := Ohx.later f_x110.out b11
      clear f_x110
      have D11 : Hid (Below W9.heap.size W9 W11) := D10.out.trans (b11.mono D10.out.size)
      refine wpAnyH_ready (rs := [5]) (by kernel_rfl) (by simp) ?_
      refine AllReadyH.cons rfl (fun K hK => ?_) AllReadyH.nil
      go_simp
      refine (q2 W11 _ _ _ B11.out o_x11.out.sl f_x111.out.1.sh o_x311.out.sl).mono ?_
      rintro e W12 ⟨v_gv, rfl, o_gv12, b12⟩
      refine hK.out _ _ ⟨(keepR (W := W11) hHeld.1 b12), (keepR (W := W11) hHeld.2.1 b12), (keepR (W := W11) hHeld.2.2.1 b12), (keepR (W := W11) hHeld.2.2.2.1 b12), (keepR (W := W11) hHeld.2.2.2.2 b12)⟩ (fun hHeld => ?_)
      clear hK K
      try simp only [Act.put, List.setIfInBounds_toArray, List.set_cons_zero, List.set_cons_succ, List.getElem_toArray, List.getElem_cons_zero, List.getElem_cons_succ]
      obtain ⟨ao_gv, L_gv, cap_gv, rfl, hL_gv, hM_gv⟩ := o_gv12.form
      have o_gv12 : Hid (Own W12 W11.heap.size W12.heap.size 9 (.slice ao_gv L_gv cap_gv) (ss R)) := o_gv12
      clear hL_gv hM_gv
      have z12 : W11.heap.size ≤ W12.heap.size := b12.size
      have B12 : Hid (Below w.heap.size w W12) := B11.out.trans (b12.mono B11.out.size)
      have r_g012 : Hid (W12.heap[W9.heap.size]? = some (.cells #[.slice none 0 0, .int .i64 0, .string ⟨#[]⟩] 28 (0, 0))) := rowKeep r_g011.out b12
      have o_x12 : Hid (Own W12 (W5.heap.size) (W6.heap.size) 9 (.slice ao_x L_x cap_x) (ss l)) := Own.later o_x11.out b12 (by omega)
      have o_x312 : Hid (Own W12 (W8.heap.size) (W9.heap.size) 9 (.slice ao_x3 L_x3 cap_x3) (ss x)) := Own.later o_x311.out b12 (by omega)
      have c_g012_0 : W12.cell? ⟨W9.heap.size, 0, none⟩ = some (.slice none 0 0) := row_at r_g012.out 0
      have c_g012_1 : W12.cell? ⟨W9.heap.size, 1, none⟩ = some (.int .i64 0) := row_at r_g012.out 1
      have c_g012_2 : W12.cell? ⟨W9.heap.size, 2, none⟩ = some (.string ⟨#[]⟩) := row_at r_g012.out 2
      clear r_g011 c_g011_0 c_g011_1 c_g011_2 o_x11 o_x311
      have f_x112 : Hid (Ohx W12 W7.heap.size W8.heap.size v_x1 t) := Ohx.later f_x111.out b12
      clear f_x111
      have D12 : Hid (Below W9.heap.size W9 W12) := D11.out.trans (b12.mono D11.out.size)
      (refine wpAnyH_take (i := 6) (v := ?v6x50) rfl (by kernel_rfl) (by kernel_rfl) (by kernel_rfl) (fun _ _ _ h => h) (Or.inl ⟨by rfl, ?hy6x50⟩) (by assumption) ?rest6x50; case hy6x50 => (intro w hSw; (try dsimp only at hSw); go_split_ands; go_simp; (try with_reducible rfl)))
      try simp only [Act.put, List.setIfInBounds_toArray, List.set_cons_zero, List.set_cons_succ, List.getElem_toArray, List.getElem_cons_zero, List.getElem_cons_succ]
      (refine wpAnyH_take (i := 7) (v := ?v7x51) rfl (by kernel_rfl) (by kernel_rfl) (by kernel_rfl) (fun _ _ _ h => h) (Or.inl ⟨by rfl, ?hy7x51⟩) (by assumption) ?rest7x51; case hy7x51 => (intro w hSw; (try dsimp only at hSw); go_split_ands; go_simp; (try with_reducible rfl)))
      try simp only [Act.put, List.setIfInBounds_toArray, List.set_cons_zero, List.set_cons_succ, List.getElem_toArray, List.getElem_cons_zero, List.getElem_cons_succ]
      (refine wpAnyH_take (i := 8) (v := ?v8x52) rfl (by kernel_rfl) (by kernel_rfl) (by kernel_rfl) (fun _ _ _ h => h) (Or.inl ⟨by rfl, ?hy8x52⟩) (by assumption) ?rest8x52; case hy8x52 => (intro w hSw; (try dsimp only at hSw); go_split_ands; go_simp; (try with_reducible rfl)))
      try simp only [Act.put, List.setIfInBounds_toArray, List.set_cons_zero, List.set_cons_succ, List.getElem_toArray, List.getElem_cons_zero, List.getElem_cons_succ]
      refine wpAnyH_ready (rs := [10]) (by kernel_rfl) (by simp) ?_
      refine AllReadyH.cons rfl (fun K hK => ?_) AllReadyH.nil
      rw [if_pos (by rfl)]
      refine wp_store_row 28 _ _ rfl (W9.heap.size) (lc (.slice ao_gv L_gv cap_gv) H') rfl rfl 28 _ r_g012.out (sizeL _ _) rfl (oneL _ rfl) ?_
      refine hK.out _ _ ⟨(cell_row (by show W6.heap.size ≠ W9.heap.size; omega) hHeld.1), (cell_row (by show W6.heap.size ≠ W9.heap.size; omega) hHeld.2.1), (cell_row (by show W6.heap.size ≠ W9.heap.size; omega) hHeld.2.2.1), (cell_row (by show w.heap.size + 1 ≠ W9.heap.size; omega) hHeld.2.2.2.1), (cell_row (by show w.heap.size + 1 ≠ W9.heap.size; omega) hHeld.2.2.2.2)⟩ (fun hHeld => ?_)
      clear hK K
      try simp only [Act.put, List.setIfInBounds_toArray, List.set_cons_zero, List.set_cons_succ, List.getElem_toArray, List.getElem_cons_zero, List.getElem_cons_succ]
      have D13a : Below W9.heap.size W9 (W12.setRow (W9.heap.size) (lc (.slice ao_gv L_gv cap_gv) H')) := below_setRow D12.out (by omega) _
      obtain ⟨W13, HW13⟩ : ∃ X, Hid (W12.setRow (W9.heap.size) (lc (.slice ao_gv L_gv cap_gv) H') = X) := ⟨_, rfl⟩
      have z13 : W12.heap.size ≤ W13.heap.size := by rw [← HW13.out]; simp
      have B13 : Hid (Below w.heap.size w W13) := by show Below _ _ _; rw [← HW13.out]; exact below_setRow B12.out (by have := B12.out.size; omega) _
      have o_x13 : Hid (Own W13 (W5.heap.size) (W6.heap.size) 9 (.slice ao_x L_x cap_x) (ss l)) := by show Own _ _ _ _ _ _; rw [← HW13.out]; exact Own.setRow o_x12.out _ (by omega)
      have o_x313 : Hid (Own W13 (W8.heap.size) (W9.heap.size) 9 (.slice ao_x3 L_x3 cap_x3) (ss x)) := by show Own _ _ _ _ _ _; rw [← HW13.out]; exact Own.setRow o_x312.out _ (by omega)
      have o_gv13 : Hid (Own W13 (W11.heap.size) (W12.heap.size) 9 (.slice ao_gv L_gv cap_gv) (ss R)) := by show Own _ _ _ _ _ _; rw [← HW13.out]; exact Own.setRow o_gv12.out _ (by omega)
      have r_g013 : Hid (W13.heap[W9.heap.size]? = some (.cells #[.slice ao_gv L_gv cap_gv, .int .i64 H'.n, .string H'.r] 28 (0, 0))) := by show _ = _; rw [← HW13.out]; exact setRow_heap _ _ _ _ _ (0, 0) r_g012.out
      rw [HW13.out]
      clear r_g012 c_g012_0 c_g012_1 c_g012_2 o_x12 o_x312 o_gv12
      have c_g013_0 : W13.cell? ⟨W9.heap.size, 0, none⟩ = some (.slice ao_gv L_gv cap_gv) := row_at r_g013.out 0
      have c_g013_1 : W13.cell? ⟨W9.heap.size, 1, none⟩ = some (.int .i64 H'.n) := row_at r_g013.out 1
      have c_g013_2 : W13.cell? ⟨W9.heap.size, 2, none⟩ = some (.string H'.r) := row_at r_g013.out 2
      rw [HW13.out] at hHeld
      have D13 : Hid (Below W9.heap.size W9 W13) := by show Below _ _ _; rw [← HW13.out]; exact D13a
      (refine wpAnyH_take (i := 11) (v := ?v11x53) rfl (by kernel_rfl) (by kernel_rfl) (by kernel_rfl) (fun _ _ _ h => h) (Or.inl ⟨by rfl, ?hy11x53⟩) (by assumption) ?rest11x53; case hy11x53 => (intro w hSw; (try dsimp only at hSw); go_split_ands; go_simp; (try with_reducible rfl)))
      try simp only [Act.put, List.setIfInBounds_toArray, List.set_cons_zero, List.set_cons_succ, List.getElem_toArray, List.getElem_cons_zero, List.getElem_cons_succ]
      refine wpAnyH_done (by kernel_rfl) ?_ _
      clear hHeld
      go_wp2_with fail
      go_meet
      exact ⟨W9.heap.size, rfl, rfl, by omega, (Array.getElem?_eq_some_iff.1 r_g013.out).1, D13.out, W11.heap.size, W12.heap.size, ao_gv, L_gv, cap_gv, by omega, by omega, by omega, r_g013.out, o_gv13.out⟩
  case rest =>
  obtain ⟨g_g0, rfl, rfl, hg_g0, hg2_g0, b10, lo_gv, hi_gv, ao_gv, L_gv, cap_gv, hlo_gv, hhi_gv, hgo_g0, r_g010, o_gv10⟩ := hcut
  skip
  obtain ⟨W10, hWc10⟩ : ∃ W10, wc = W10 := ⟨_, rfl⟩
  revert b10 r_g010 hg2_g0 o_gv10 hhi_gv
  generalize wc = W10
  intro hg2_g0 b10 hhi_gv r_g010 o_gv10
  have r_g010 : Hid (W10.heap[g_g0]? = some (.cells #[.slice ao_gv L_gv cap_gv, .int .i64 H'.n, .string H'.r] 28 (0, 0))) := r_g010
  have o_gv10 : Hid (Own W10 lo_gv hi_gv 9 (.slice ao_gv L_gv cap_gv) (ss R)) := o_gv10
  have z10 : W9.heap.size ≤ W10.heap.size := b10.size
  have B10 : Hid (Below w.heap.size w W10) := B9.out.trans (b10.mono B9.out.size)
  have r_a10 : Hid (W10.heap[w.heap.size]? = some (.cells #[.slice ao0 l.length cap0, .int .i64 hd.n, .string hd.r] 50 (0, 0))) := rowKeep r_a9.out b10
  have r_h10 : Hid (W10.heap[w.heap.size + 1]? = some (.cells #[.int .i64 h.n, .string h.r] 48 (0, 0))) := rowKeep r_h9.out b10
  have r_w010 : Hid (W10.heap[g_w0]? = some (.cells #[.slice ao_wv L_wv cap_wv, .int .i64 H'.n, .string H'.r] 28 (0, 0))) := rowKeep r_w09.out b10
  have r_x010 : Hid (W10.heap[W6.heap.size]? = some (.cells #[.slice ao_x L_x cap_x, .int .i64 hd.n, .string hd.r] 28 (0, 0))) := rowKeep r_x09.out b10
  have o_wv10 : Hid (Own W10 (lo_wv) (hi_wv) 9 (.slice ao_wv L_wv cap_wv) (ss R)) := Own.later o_wv9.out b10 (by omega)
  have o_x10 : Hid (Own W10 (W5.heap.size) (W6.heap.size) 9 (.slice ao_x L_x cap_x) (ss l)) := Own.later o_x9.out b10 (by omega)
  have o_x310 : Hid (Own W10 (W8.heap.size) (W9.heap.size) 9 (.slice ao_x3 L_x3 cap_x3) (ss x)) := Own.later o_x39.out b10 (by omega)
  have c_a10_0 : W10.cell? ⟨w.heap.size, 0, none⟩ = some (.slice ao0 l.length cap0) := row_at r_a10.out 0
  have c_a10_1 : W10.cell? ⟨w.heap.size, 1, none⟩ = some (.int .i64 hd.n) := row_at r_a10.out 1
  have c_a10_2 : W10.cell? ⟨w.heap.size, 2, none⟩ = some (.string hd.r) := row_at r_a10.out 2
  have c_h10_0 : W10.cell? ⟨w.heap.size + 1, 0, none⟩ = some (.int .i64 h.n) := row_at r_h10.out 0
  have c_h10_1 : W10.cell? ⟨w.heap.size + 1, 1, none⟩ = some (.string h.r) := row_at r_h10.out 1
  have c_w010_0 : W10.cell? ⟨g_w0, 0, none⟩ = some (.slice ao_wv L_wv cap_wv) := row_at r_w010.out 0
  have c_w010_1 : W10.cell? ⟨g_w0, 1, none⟩ = some (.int .i64 H'.n) := row_at r_w010.out 1
  have c_w010_2 : W10.cell? ⟨g_w0, 2, none⟩ = some (.string H'.r) := row_at r_w010.out 2
  have c_x010_0 : W10.cell? ⟨W6.heap.size, 0, none⟩ = some (.slice ao_x L_x cap_x) := row_at r_x010.out 0
  have c_x010_1 : W10.cell? ⟨W6.heap.size, 1, none⟩ = some (.int .i64 hd.n) := row_at r_x010.out 1
  have c_x010_2 : W10.cell? ⟨W6.heap.size, 2, none⟩ = some (.string hd.r) := row_at r_x010.out 2
  have c_g010_0 : W10.cell? ⟨g_g0, 0, none⟩ = some (.slice ao_gv L_gv cap_gv) := row_at r_g010.out 0
  have c_g010_1 : W10.cell? ⟨g_g0, 1, none⟩ = some (.int .i64 H'.n) := row_at r_g010.out 1
  have c_g010_2 : W10.cell? ⟨g_g0, 2, none⟩ = some (.string H'.r) := row_at r_g010.out 2
  clear r_a9 c_a9_0 c_a9_1 c_a9_2 r_h9 c_h9_0 c_h9_1 r_w09 c_w09_0 c_w09_1 c_w09_2 r_x09 c_x09_0 c_x09_1 c_x09_2 o_wv9 o_x9 o_x39
  have f_x110 : Hid (Ohx W10 W7.heap.size W8.heap.size v_x1 t) := Ohx.later f_x19.out b10
  clear f_x19
  go_wp2_with fail
  refine (eq_log W10 H' _ _ R o_gv10.out.sl o_wv10.out.sl (by omega)).mono ?_
  rintro e W11 ⟨rfl, b11⟩
  have z11 : W10.heap.size ≤ W11.heap.size := b11.size
  have B11 : Hid (Below w.heap.size w W11) := B10.out.trans (b11.mono B10.out.size)
  have r_a11 : Hid (W11.heap[w.heap.size]? = some (.cells #[.slice ao0 l.length cap0, .int .i64 hd.n, .string hd.r] 50 (0, 0))) := rowKeep r_a10.out b11
  have r_h11 : Hid (W11.heap[w.heap.size + 1]? = some (.cells #[.int .i64 h.n, .string h.r] 48 (0, 0))) := rowKeep r_h10.out b11
  have r_w011 : Hid (W11.heap[g_w0]? = some (.cells #[.slice ao_wv L_wv cap_wv, .int .i64 H'.n, .string H'.r] 28 (0, 0))) := rowKeep r_w010.out b11
  have r_x011 : Hid (W11.heap[W6.heap.size]? = some (.cells #[.slice ao_x L_x cap_x, .int .i64 hd.n, .string hd.r] 28 (0, 0))) := rowKeep r_x010.out b11
  have r_g011 : Hid (W11.heap[g_g0]? = some (.cells #[.slice ao_gv L_gv cap_gv, .int .i64 H'.n, .string H'.r] 28 (0, 0))) := rowKeep r_g010.out b11
  have o_wv11 : Hid (Own W11 (lo_wv) (hi_wv) 9 (.slice ao_wv L_wv cap_wv) (ss R)) := Own.later o_wv10.out b11 (by omega)
  have o_x11 : Hid (Own W11 (W5.heap.size) (W6.heap.size) 9 (.slice ao_x L_x cap_x) (ss l)) := Own.later o_x10.out b11 (by omega)
  have o_x311 : Hid (Own W11 (W8.heap.size) (W9.heap.size) 9 (.slice ao_x3 L_x3 cap_x3) (ss x)) := Own.later o_x310.out b11 (by omega)
  have o_gv11 : Hid (Own W11 (lo_gv) (hi_gv) 9 (.slice ao_gv L_gv cap_gv) (ss R)) := Own.later o_gv10.out b11 (by omega)
  have c_a11_0 : W11.cell? ⟨w.heap.size, 0, none⟩ = some (.slice ao0 l.length cap0) := row_at r_a11.out 0
  have c_a11_1 : W11.cell? ⟨w.heap.size, 1, none⟩ = some (.int .i64 hd.n) := row_at r_a11.out 1
  have c_a11_2 : W11.cell? ⟨w.heap.size, 2, none⟩ = some (.string hd.r) := row_at r_a11.out 2
  have c_h11_0 : W11.cell? ⟨w.heap.size + 1, 0, none⟩ = some (.int .i64 h.n) := row_at r_h11.out 0
  have c_h11_1 : W11.cell? ⟨w.heap.size + 1, 1, none⟩ = some (.string h.r) := row_at r_h11.out 1
  have c_w011_0 : W11.cell? ⟨g_w0, 0, none⟩ = some (.slice ao_wv L_wv cap_wv) := row_at r_w011.out 0
  have c_w011_1 : W11.cell? ⟨g_w0, 1, none⟩ = some (.int .i64 H'.n) := row_at r_w011.out 1
  have c_w011_2 : W11.cell? ⟨g_w0, 2, none⟩ = some (.string H'.r) := row_at r_w011.out 2
  have c_x011_0 : W11.cell? ⟨W6.heap.size, 0, none⟩ = some (.slice ao_x L_x cap_x) := row_at r_x011.out 0
  have c_x011_1 : W11.cell? ⟨W6.heap.size, 1, none⟩ = some (.int .i64 hd.n) := row_at r_x011.out 1
  have c_x011_2 : W11.cell? ⟨W6.heap.size, 2, none⟩ = some (.string hd.r) := row_at r_x011.out 2
  have c_g011_0 : W11.cell? ⟨g_g0, 0, none⟩ = some (.slice ao_gv L_gv cap_gv) := row_at r_g011.out 0
  have c_g011_1 : W11.cell? ⟨g_g0, 1, none⟩ = some (.int .i64 H'.n) := row_at r_g011.out 1
  have c_g011_2 : W11.cell? ⟨g_g0, 2, none⟩ = some (.string H'.r) := row_at r_g011.out 2
  clear r_a10 c_a10_0 c_a10_1 c_a10_2 r_h10 c_h10_0 c_h10_1 r_w010 c_w010_0 c_w010_1 c_w010_2 r_x010 c_x010_0 c_x010_1 c_x010_2 r_g010 c_g010_0 c_g010_1 c_g010_2 o_wv10 o_x10 o_x310 o_gv10
  have f_x111 : Hid (Ohx W11 W7.heap.size W8.heap.size v_x1 t) := Ohx.later f_x110.out b11
  clear f_x110
  go_wp2_with fail
  refine wp_region_held_drew (S := fun w' => w'.cell? ⟨W6.heap.size, 0, none⟩ = some (.slice ao_x L_x cap_x) ∧ w'.cell? ⟨W6.heap.size, 1, none⟩ = some (.int .i64 hd.n) ∧ w'.cell? ⟨W6.heap.size, 2, none⟩ = some (.string hd.r) ∧ w'.cell? ⟨w.heap.size, 0, none⟩ = some (.slice ao0 l.length cap0) ∧ w'.cell? ⟨w.heap.size, 1, none⟩ = some (.int .i64 hd.n) ∧ w'.cell? ⟨w.heap.size, 2, none⟩ = some (.string hd.r)) (by kernel_rfl) ⟨c_x011_0, c_x011_1, c_x011_2, c_a11_0, c_a11_1, c_a11_2⟩ (fun hHeld => ?_)
  (refine wpAnyH_take (i := 0) (v := ?v0x54) rfl (by kernel_rfl) (by kernel_rfl) (by kernel_rfl) (fun _ _ _ h => h) (Or.inl ⟨by rfl, ?hy0x54⟩) (by assumption) ?rest0x54; case hy0x54 => (intro w hSw; (try dsimp only at hSw); go_split_ands; go_simp; (try with_reducible rfl)))
  try simp only [Act.put, List.setIfInBounds_toArray, List.set_cons_zero, List.set_cons_succ, List.getElem_toArray, List.getElem_cons_zero, List.getElem_cons_succ]
  (refine wpAnyH_take (i := 1) (v := ?v1x55) rfl (by kernel_rfl) (by kernel_rfl) (by kernel_rfl) (fun _ _ _ h => h) (Or.inl ⟨by rfl, ?hy1x55⟩) (by assumption) ?rest1x55; case hy1x55 => (intro w hSw; (try dsimp only at hSw); go_split_ands; go_simp; (try with_reducible rfl)))
  try simp only [Act.put, List.setIfInBounds_toArray, List.set_cons_zero, List.set_cons_succ, List.getElem_toArray, List.getElem_cons_zero, List.getElem_cons_succ]
  refine wpAnyH_ready (rs := [2]) (by kernel_rfl) (by simp) ?_
  refine AllReadyH.cons rfl (fun K hK => ?_) AllReadyH.nil
  go_simp
  refine (to_log W11.drew _ l hd (HS.out.later (Below.drew B11.out)) (by omega)).mono ?_
  rintro e W12 ⟨v_u, rfl, o_u12, b12⟩
  have b12 : Below W11.heap.size W11 W12 := (Below.drew (Below.refl _ _)).trans b12
  refine hK.out _ _ ⟨keepR (W := W11) hHeld.1 b12, keepR (W := W11) hHeld.2.1 b12, keepR (W := W11) hHeld.2.2.1 b12, keepR (W := W11) hHeld.2.2.2.1 b12, keepR (W := W11) hHeld.2.2.2.2.1 b12, keepR (W := W11) hHeld.2.2.2.2.2 b12⟩ (fun hHeld => ?_)
  clear hK K
  try simp only [Act.put, List.setIfInBounds_toArray, List.set_cons_zero, List.set_cons_succ, List.getElem_toArray, List.getElem_cons_zero, List.getElem_cons_succ]
  have o_u12 : Own W12 W11.heap.size W12.heap.size 9 _ _ := o_u12
  obtain ⟨ao_u, L_u, cap_u, rfl, hL_u, hM_u⟩ := o_u12.form
  have o_u12 : Hid (Own W12 W11.heap.size W12.heap.size 9 (.slice ao_u L_u cap_u) (ss l)) := o_u12
  clear hL_u hM_u
  have z12 : W11.heap.size ≤ W12.heap.size := b12.size
  have B12 : Hid (Below w.heap.size w W12) := B11.out.trans (b12.mono B11.out.size)
  have r_a12 : Hid (W12.heap[w.heap.size]? = some (.cells #[.slice ao0 l.length cap0, .int .i64 hd.n, .string hd.r] 50 (0, 0))) := rowKeep r_a11.out b12
  have r_h12 : Hid (W12.heap[w.heap.size + 1]? = some (.cells #[.int .i64 h.n, .string h.r] 48 (0, 0))) := rowKeep r_h11.out b12
  have r_w012 : Hid (W12.heap[g_w0]? = some (.cells #[.slice ao_wv L_wv cap_wv, .int .i64 H'.n, .string H'.r] 28 (0, 0))) := rowKeep r_w011.out b12
  have r_x012 : Hid (W12.heap[W6.heap.size]? = some (.cells #[.slice ao_x L_x cap_x, .int .i64 hd.n, .string hd.r] 28 (0, 0))) := rowKeep r_x011.out b12
  have r_g012 : Hid (W12.heap[g_g0]? = some (.cells #[.slice ao_gv L_gv cap_gv, .int .i64 H'.n, .string H'.r] 28 (0, 0))) := rowKeep r_g011.out b12
  have o_wv12 : Hid (Own W12 (lo_wv) (hi_wv) 9 (.slice ao_wv L_wv cap_wv) (ss R)) := Own.later o_wv11.out b12 (by omega)
  have o_x12 : Hid (Own W12 (W5.heap.size) (W6.heap.size) 9 (.slice ao_x L_x cap_x) (ss l)) := Own.later o_x11.out b12 (by omega)
  have o_x312 : Hid (Own W12 (W8.heap.size) (W9.heap.size) 9 (.slice ao_x3 L_x3 cap_x3) (ss x)) := Own.later o_x311.out b12 (by omega)
  have o_gv12 : Hid (Own W12 (lo_gv) (hi_gv) 9 (.slice ao_gv L_gv cap_gv) (ss R)) := Own.later o_gv11.out b12 (by omega)
  have c_a12_0 : W12.cell? ⟨w.heap.size, 0, none⟩ = some (.slice ao0 l.length cap0) := row_at r_a12.out 0
  have c_a12_1 : W12.cell? ⟨w.heap.size, 1, none⟩ = some (.int .i64 hd.n) := row_at r_a12.out 1
  have c_a12_2 : W12.cell? ⟨w.heap.size, 2, none⟩ = some (.string hd.r) := row_at r_a12.out 2
  have c_h12_0 : W12.cell? ⟨w.heap.size + 1, 0, none⟩ = some (.int .i64 h.n) := row_at r_h12.out 0
  have c_h12_1 : W12.cell? ⟨w.heap.size + 1, 1, none⟩ = some (.string h.r) := row_at r_h12.out 1
  have c_w012_0 : W12.cell? ⟨g_w0, 0, none⟩ = some (.slice ao_wv L_wv cap_wv) := row_at r_w012.out 0
  have c_w012_1 : W12.cell? ⟨g_w0, 1, none⟩ = some (.int .i64 H'.n) := row_at r_w012.out 1
  have c_w012_2 : W12.cell? ⟨g_w0, 2, none⟩ = some (.string H'.r) := row_at r_w012.out 2
  have c_x012_0 : W12.cell? ⟨W6.heap.size, 0, none⟩ = some (.slice ao_x L_x cap_x) := row_at r_x012.out 0
  have c_x012_1 : W12.cell? ⟨W6.heap.size, 1, none⟩ = some (.int .i64 hd.n) := row_at r_x012.out 1
  have c_x012_2 : W12.cell? ⟨W6.heap.size, 2, none⟩ = some (.string hd.r) := row_at r_x012.out 2
  have c_g012_0 : W12.cell? ⟨g_g0, 0, none⟩ = some (.slice ao_gv L_gv cap_gv) := row_at r_g012.out 0
  have c_g012_1 : W12.cell? ⟨g_g0, 1, none⟩ = some (.int .i64 H'.n) := row_at r_g012.out 1
  have c_g012_2 : W12.cell? ⟨g_g0, 2, none⟩ = some (.string H'.r) := row_at r_g012.out 2
  clear r_a11 c_a11_0 c_a11_1 c_a11_2 r_h11 c_h11_0 c_h11_1 r_w011 c_w011_0 c_w011_1 c_w011_2 r_x011 c_x011_0 c_x011_1 c_x011_2 r_g011 c_g011_0 c_g011_1 c_g011_2 o_wv11 o_x11 o_x311 o_gv11
  have f_x112 : Hid (Ohx W12 W7.heap.size W8.heap.size v_x1 t) := Ohx.later f_x111.out b12
  clear f_x111
  refine wpAnyH_ready (rs := [3]) (by kernel_rfl) (by simp) ?_
  refine AllReadyH.cons rfl (fun K hK => ?_) AllReadyH.nil
  go_simp
  refine (eq_log W12 hd _ _ l o_x12.out.sl o_u12.out.sl (by omega)).mono ?_
  rintro e W13 ⟨rfl, b13⟩
  refine hK.out _ _ ⟨keepR (W := W12) hHeld.1 b13, keepR (W := W12) hHeld.2.1 b13, keepR (W := W12) hHeld.2.2.1 b13, keepR (W := W12) hHeld.2.2.2.1 b13, keepR (W := W12) hHeld.2.2.2.2.1 b13, keepR (W := W12) hHeld.2.2.2.2.2 b13⟩ (fun hHeld => ?_)
  clear hK K
  try simp only [Act.put, List.setIfInBounds_toArray, List.set_cons_zero, List.set_cons_succ, List.getElem_toArray, List.getElem_cons_zero, List.getElem_cons_succ]
  have z13 : W12.heap.size ≤ W13.heap.size := b13.size
  have B13 : Hid (Below w.heap.size w W13) := B12.out.trans (b13.mono B12.out.size)
  have r_a13 : Hid (W13.heap[w.heap.size]? = some (.cells #[.slice ao0 l.length cap0, .int .i64 hd.n, .string hd.r] 50 (0, 0))) := rowKeep r_a12.out b13
  have r_h13 : Hid (W13.heap[w.heap.size + 1]? = some (.cells #[.int .i64 h.n, .string h.r] 48 (0, 0))) := rowKeep r_h12.out b13
  have r_w013 : Hid (W13.heap[g_w0]? = some (.cells #[.slice ao_wv L_wv cap_wv, .int .i64 H'.n, .string H'.r] 28 (0, 0))) := rowKeep r_w012.out b13
  have r_x013 : Hid (W13.heap[W6.heap.size]? = some (.cells #[.slice ao_x L_x cap_x, .int .i64 hd.n, .string hd.r] 28 (0, 0))) := rowKeep r_x012.out b13
  have r_g013 : Hid (W13.heap[g_g0]? = some (.cells #[.slice ao_gv L_gv cap_gv, .int .i64 H'.n, .string H'.r] 28 (0, 0))) := rowKeep r_g012.out b13
  have o_wv13 : Hid (Own W13 (lo_wv) (hi_wv) 9 (.slice ao_wv L_wv cap_wv) (ss R)) := Own.later o_wv12.out b13 (by omega)
  have o_x13 : Hid (Own W13 (W5.heap.size) (W6.heap.size) 9 (.slice ao_x L_x cap_x) (ss l)) := Own.later o_x12.out b13 (by omega)
  have o_x313 : Hid (Own W13 (W8.heap.size) (W9.heap.size) 9 (.slice ao_x3 L_x3 cap_x3) (ss x)) := Own.later o_x312.out b13 (by omega)
  have o_gv13 : Hid (Own W13 (lo_gv) (hi_gv) 9 (.slice ao_gv L_gv cap_gv) (ss R)) := Own.later o_gv12.out b13 (by omega)
  have o_u13 : Hid (Own W13 (W11.heap.size) (W12.heap.size) 9 (.slice ao_u L_u cap_u) (ss l)) := Own.later o_u12.out b13 (by omega)
  have c_a13_0 : W13.cell? ⟨w.heap.size, 0, none⟩ = some (.slice ao0 l.length cap0) := row_at r_a13.out 0
  have c_a13_1 : W13.cell? ⟨w.heap.size, 1, none⟩ = some (.int .i64 hd.n) := row_at r_a13.out 1
  have c_a13_2 : W13.cell? ⟨w.heap.size, 2, none⟩ = some (.string hd.r) := row_at r_a13.out 2
  have c_h13_0 : W13.cell? ⟨w.heap.size + 1, 0, none⟩ = some (.int .i64 h.n) := row_at r_h13.out 0
  have c_h13_1 : W13.cell? ⟨w.heap.size + 1, 1, none⟩ = some (.string h.r) := row_at r_h13.out 1
  have c_w013_0 : W13.cell? ⟨g_w0, 0, none⟩ = some (.slice ao_wv L_wv cap_wv) := row_at r_w013.out 0
  have c_w013_1 : W13.cell? ⟨g_w0, 1, none⟩ = some (.int .i64 H'.n) := row_at r_w013.out 1
  have c_w013_2 : W13.cell? ⟨g_w0, 2, none⟩ = some (.string H'.r) := row_at r_w013.out 2
  have c_x013_0 : W13.cell? ⟨W6.heap.size, 0, none⟩ = some (.slice ao_x L_x cap_x) := row_at r_x013.out 0
  have c_x013_1 : W13.cell? ⟨W6.heap.size, 1, none⟩ = some (.int .i64 hd.n) := row_at r_x013.out 1
  have c_x013_2 : W13.cell? ⟨W6.heap.size, 2, none⟩ = some (.string hd.r) := row_at r_x013.out 2
  have c_g013_0 : W13.cell? ⟨g_g0, 0, none⟩ = some (.slice ao_gv L_gv cap_gv) := row_at r_g013.out 0
  have c_g013_1 : W13.cell? ⟨g_g0, 1, none⟩ = some (.int .i64 H'.n) := row_at r_g013.out 1
  have c_g013_2 : W13.cell? ⟨g_g0, 2, none⟩ = some (.string H'.r) := row_at r_g013.out 2
  clear r_a12 c_a12_0 c_a12_1 c_a12_2 r_h12 c_h12_0 c_h12_1 r_w012 c_w012_0 c_w012_1 c_w012_2 r_x012 c_x012_0 c_x012_1 c_x012_2 r_g012 c_g012_0 c_g012_1 c_g012_2 o_wv12 o_x12 o_x312 o_gv12 o_u12
  have f_x113 : Hid (Ohx W13 W7.heap.size W8.heap.size v_x1 t) := Ohx.later f_x112.out b13
  clear f_x112
  (refine wpAnyH_take (i := 4) (v := ?v4x56) rfl (by kernel_rfl) (by kernel_rfl) (by kernel_rfl) (fun _ _ _ h => h) (Or.inl ⟨by rfl, ?hy4x56⟩) (by assumption) ?rest4x56; case hy4x56 => (intro w hSw; (try dsimp only at hSw); go_split_ands; go_simp; (try with_reducible rfl)))
  try simp only [Act.put, List.setIfInBounds_toArray, List.set_cons_zero, List.set_cons_succ, List.getElem_toArray, List.getElem_cons_zero, List.getElem_cons_succ]
  refine wpAnyH_done (by kernel_rfl) ?_ _
  clear hHeld
  clear o_u13
  go_wp2_with fail
  refine (q3 W13 B13.out).mono ?_
  rintro e W14 ⟨v_u1, rfl, o_u114, b14⟩
  have z14 : W13.heap.size ≤ W14.heap.size := b14.size
  have B14 : Hid (Below w.heap.size w W14) := B13.out.trans (b14.mono B13.out.size)
  have r_a14 : Hid (W14.heap[w.heap.size]? = some (.cells #[.slice ao0 l.length cap0, .int .i64 hd.n, .string hd.r] 50 (0, 0))) := rowKeep r_a13.out b14
  have r_h14 : Hid (W14.heap[w.heap.size + 1]? = some (.cells #[.int .i64 h.n, .string h.r] 48 (0, 0))) := rowKeep r_h13.out b14
  have r_w014 : Hid (W14.heap[g_w0]? = some (.cells #[.slice ao_wv L_wv cap_wv, .int .i64 H'.n, .string H'.r] 28 (0, 0))) := rowKeep r_w013.out b14
  have r_x014 : Hid (W14.heap[W6.heap.size]? = some (.cells #[.slice ao_x L_x cap_x, .int .i64 hd.n, .string hd.r] 28 (0, 0))) := rowKeep r_x013.out b14
  have r_g014 : Hid (W14.heap[g_g0]? = some (.cells #[.slice ao_gv L_gv cap_gv, .int .i64 H'.n, .string H'.r] 28 (0, 0))) := rowKeep r_g013.out b14
  have o_wv14 : Hid (Own W14 (lo_wv) (hi_wv) 9 (.slice ao_wv L_wv cap_wv) (ss R)) := Own.later o_wv13.out b14 (by omega)
  have o_x14 : Hid (Own W14 (W5.heap.size) (W6.heap.size) 9 (.slice ao_x L_x cap_x) (ss l)) := Own.later o_x13.out b14 (by omega)
  have o_x314 : Hid (Own W14 (W8.heap.size) (W9.heap.size) 9 (.slice ao_x3 L_x3 cap_x3) (ss x)) := Own.later o_x313.out b14 (by omega)
  have o_gv14 : Hid (Own W14 (lo_gv) (hi_gv) 9 (.slice ao_gv L_gv cap_gv) (ss R)) := Own.later o_gv13.out b14 (by omega)
  have c_a14_0 : W14.cell? ⟨w.heap.size, 0, none⟩ = some (.slice ao0 l.length cap0) := row_at r_a14.out 0
  have c_a14_1 : W14.cell? ⟨w.heap.size, 1, none⟩ = some (.int .i64 hd.n) := row_at r_a14.out 1
  have c_a14_2 : W14.cell? ⟨w.heap.size, 2, none⟩ = some (.string hd.r) := row_at r_a14.out 2
  have c_h14_0 : W14.cell? ⟨w.heap.size + 1, 0, none⟩ = some (.int .i64 h.n) := row_at r_h14.out 0
  have c_h14_1 : W14.cell? ⟨w.heap.size + 1, 1, none⟩ = some (.string h.r) := row_at r_h14.out 1
  have c_w014_0 : W14.cell? ⟨g_w0, 0, none⟩ = some (.slice ao_wv L_wv cap_wv) := row_at r_w014.out 0
  have c_w014_1 : W14.cell? ⟨g_w0, 1, none⟩ = some (.int .i64 H'.n) := row_at r_w014.out 1
  have c_w014_2 : W14.cell? ⟨g_w0, 2, none⟩ = some (.string H'.r) := row_at r_w014.out 2
  have c_x014_0 : W14.cell? ⟨W6.heap.size, 0, none⟩ = some (.slice ao_x L_x cap_x) := row_at r_x014.out 0
  have c_x014_1 : W14.cell? ⟨W6.heap.size, 1, none⟩ = some (.int .i64 hd.n) := row_at r_x014.out 1
  have c_x014_2 : W14.cell? ⟨W6.heap.size, 2, none⟩ = some (.string hd.r) := row_at r_x014.out 2
  have c_g014_0 : W14.cell? ⟨g_g0, 0, none⟩ = some (.slice ao_gv L_gv cap_gv) := row_at r_g014.out 0
  have c_g014_1 : W14.cell? ⟨g_g0, 1, none⟩ = some (.int .i64 H'.n) := row_at r_g014.out 1
  have c_g014_2 : W14.cell? ⟨g_g0, 2, none⟩ = some (.string H'.r) := row_at r_g014.out 2
  clear r_a13 c_a13_0 c_a13_1 c_a13_2 r_h13 c_h13_0 c_h13_1 r_w013 c_w013_0 c_w013_1 c_w013_2 r_x013 c_x013_0 c_x013_1 c_x013_2 r_g013 c_g013_0 c_g013_1 c_g013_2 o_wv13 o_x13 o_x313 o_gv13
  have f_x114 : Hid (Ohx W14 W7.heap.size W8.heap.size v_x1 t) := Ohx.later f_x113.out b14
  clear f_x113
  go_wp2_with fail
  refine (eq_heads W14 v_x1 v_u1 t f_x114.out.1.sh o_u114.sh (by omega)).mono ?_
  rintro e W15 ⟨rfl, b15⟩
  have z15 : W14.heap.size ≤ W15.heap.size := b15.size
  have B15 : Hid (Below w.heap.size w W15) := B14.out.trans (b15.mono B14.out.size)
  have r_a15 : Hid (W15.heap[w.heap.size]? = some (.cells #[.slice ao0 l.length cap0, .int .i64 hd.n, .string hd.r] 50 (0, 0))) := rowKeep r_a14.out b15
  have r_h15 : Hid (W15.heap[w.heap.size + 1]? = some (.cells #[.int .i64 h.n, .string h.r] 48 (0, 0))) := rowKeep r_h14.out b15
  have r_w015 : Hid (W15.heap[g_w0]? = some (.cells #[.slice ao_wv L_wv cap_wv, .int .i64 H'.n, .string H'.r] 28 (0, 0))) := rowKeep r_w014.out b15
  have r_x015 : Hid (W15.heap[W6.heap.size]? = some (.cells #[.slice ao_x L_x cap_x, .int .i64 hd.n, .string hd.r] 28 (0, 0))) := rowKeep r_x014.out b15
  have r_g015 : Hid (W15.heap[g_g0]? = some (.cells #[.slice ao_gv L_gv cap_gv, .int .i64 H'.n, .string H'.r] 28 (0, 0))) := rowKeep r_g014.out b15
  have o_wv15 : Hid (Own W15 (lo_wv) (hi_wv) 9 (.slice ao_wv L_wv cap_wv) (ss R)) := Own.later o_wv14.out b15 (by omega)
  have o_x15 : Hid (Own W15 (W5.heap.size) (W6.heap.size) 9 (.slice ao_x L_x cap_x) (ss l)) := Own.later o_x14.out b15 (by omega)
  have o_x315 : Hid (Own W15 (W8.heap.size) (W9.heap.size) 9 (.slice ao_x3 L_x3 cap_x3) (ss x)) := Own.later o_x314.out b15 (by omega)
  have o_gv15 : Hid (Own W15 (lo_gv) (hi_gv) 9 (.slice ao_gv L_gv cap_gv) (ss R)) := Own.later o_gv14.out b15 (by omega)
  have c_a15_0 : W15.cell? ⟨w.heap.size, 0, none⟩ = some (.slice ao0 l.length cap0) := row_at r_a15.out 0
  have c_a15_1 : W15.cell? ⟨w.heap.size, 1, none⟩ = some (.int .i64 hd.n) := row_at r_a15.out 1
  have c_a15_2 : W15.cell? ⟨w.heap.size, 2, none⟩ = some (.string hd.r) := row_at r_a15.out 2
  have c_h15_0 : W15.cell? ⟨w.heap.size + 1, 0, none⟩ = some (.int .i64 h.n) := row_at r_h15.out 0
  have c_h15_1 : W15.cell? ⟨w.heap.size + 1, 1, none⟩ = some (.string h.r) := row_at r_h15.out 1
  have c_w015_0 : W15.cell? ⟨g_w0, 0, none⟩ = some (.slice ao_wv L_wv cap_wv) := row_at r_w015.out 0
  have c_w015_1 : W15.cell? ⟨g_w0, 1, none⟩ = some (.int .i64 H'.n) := row_at r_w015.out 1
  have c_w015_2 : W15.cell? ⟨g_w0, 2, none⟩ = some (.string H'.r) := row_at r_w015.out 2
  have c_x015_0 : W15.cell? ⟨W6.heap.size, 0, none⟩ = some (.slice ao_x L_x cap_x) := row_at r_x015.out 0
  have c_x015_1 : W15.cell? ⟨W6.heap.size, 1, none⟩ = some (.int .i64 hd.n) := row_at r_x015.out 1
  have c_x015_2 : W15.cell? ⟨W6.heap.size, 2, none⟩ = some (.string hd.r) := row_at r_x015.out 2
  have c_g015_0 : W15.cell? ⟨g_g0, 0, none⟩ = some (.slice ao_gv L_gv cap_gv) := row_at r_g015.out 0
  have c_g015_1 : W15.cell? ⟨g_g0, 1, none⟩ = some (.int .i64 H'.n) := row_at r_g015.out 1
  have c_g015_2 : W15.cell? ⟨g_g0, 2, none⟩ = some (.string H'.r) := row_at r_g015.out 2
  clear r_a14 c_a14_0 c_a14_1 c_a14_2 r_h14 c_h14_0 c_h14_1 r_w014 c_w014_0 c_w014_1 c_w014_2 r_x014 c_x014_0 c_x014_1 c_x014_2 r_g014 c_g014_0 c_g014_1 c_g014_2 o_wv14 o_x14 o_x314 o_gv14
  have f_x115 : Hid (Ohx W15 W7.heap.size W8.heap.size v_x1 t) := Ohx.later f_x114.out b15
  clear f_x114
  clear o_u114
  go_wp2_with fail
  refine (Strs.to_s W15 _ x (HSX.out.later B15.out) (by omega)).mono ?_
  rintro e W16 ⟨v_u3, rfl, o_u316, b16⟩
  obtain ⟨ao_u3, L_u3, cap_u3, rfl, hL_u3, hM_u3⟩ := o_u316.form
  have o_u316 : Hid (Own W16 W15.heap.size W16.heap.size 9 (.slice ao_u3 L_u3 cap_u3) (ss x)) := o_u316
  clear hL_u3 hM_u3
  have z16 : W15.heap.size ≤ W16.heap.size := b16.size
  have B16 : Hid (Below w.heap.size w W16) := B15.out.trans (b16.mono B15.out.size)
  have r_a16 : Hid (W16.heap[w.heap.size]? = some (.cells #[.slice ao0 l.length cap0, .int .i64 hd.n, .string hd.r] 50 (0, 0))) := rowKeep r_a15.out b16
  have r_h16 : Hid (W16.heap[w.heap.size + 1]? = some (.cells #[.int .i64 h.n, .string h.r] 48 (0, 0))) := rowKeep r_h15.out b16
  have r_w016 : Hid (W16.heap[g_w0]? = some (.cells #[.slice ao_wv L_wv cap_wv, .int .i64 H'.n, .string H'.r] 28 (0, 0))) := rowKeep r_w015.out b16
  have r_x016 : Hid (W16.heap[W6.heap.size]? = some (.cells #[.slice ao_x L_x cap_x, .int .i64 hd.n, .string hd.r] 28 (0, 0))) := rowKeep r_x015.out b16
  have r_g016 : Hid (W16.heap[g_g0]? = some (.cells #[.slice ao_gv L_gv cap_gv, .int .i64 H'.n, .string H'.r] 28 (0, 0))) := rowKeep r_g015.out b16
  have o_wv16 : Hid (Own W16 (lo_wv) (hi_wv) 9 (.slice ao_wv L_wv cap_wv) (ss R)) := Own.later o_wv15.out b16 (by omega)
  have o_x16 : Hid (Own W16 (W5.heap.size) (W6.heap.size) 9 (.slice ao_x L_x cap_x) (ss l)) := Own.later o_x15.out b16 (by omega)
  have o_x316 : Hid (Own W16 (W8.heap.size) (W9.heap.size) 9 (.slice ao_x3 L_x3 cap_x3) (ss x)) := Own.later o_x315.out b16 (by omega)
  have o_gv16 : Hid (Own W16 (lo_gv) (hi_gv) 9 (.slice ao_gv L_gv cap_gv) (ss R)) := Own.later o_gv15.out b16 (by omega)
  have c_a16_0 : W16.cell? ⟨w.heap.size, 0, none⟩ = some (.slice ao0 l.length cap0) := row_at r_a16.out 0
  have c_a16_1 : W16.cell? ⟨w.heap.size, 1, none⟩ = some (.int .i64 hd.n) := row_at r_a16.out 1
  have c_a16_2 : W16.cell? ⟨w.heap.size, 2, none⟩ = some (.string hd.r) := row_at r_a16.out 2
  have c_h16_0 : W16.cell? ⟨w.heap.size + 1, 0, none⟩ = some (.int .i64 h.n) := row_at r_h16.out 0
  have c_h16_1 : W16.cell? ⟨w.heap.size + 1, 1, none⟩ = some (.string h.r) := row_at r_h16.out 1
  have c_w016_0 : W16.cell? ⟨g_w0, 0, none⟩ = some (.slice ao_wv L_wv cap_wv) := row_at r_w016.out 0
  have c_w016_1 : W16.cell? ⟨g_w0, 1, none⟩ = some (.int .i64 H'.n) := row_at r_w016.out 1
  have c_w016_2 : W16.cell? ⟨g_w0, 2, none⟩ = some (.string H'.r) := row_at r_w016.out 2
  have c_x016_0 : W16.cell? ⟨W6.heap.size, 0, none⟩ = some (.slice ao_x L_x cap_x) := row_at r_x016.out 0
  have c_x016_1 : W16.cell? ⟨W6.heap.size, 1, none⟩ = some (.int .i64 hd.n) := row_at r_x016.out 1
  have c_x016_2 : W16.cell? ⟨W6.heap.size, 2, none⟩ = some (.string hd.r) := row_at r_x016.out 2
  have c_g016_0 : W16.cell? ⟨g_g0, 0, none⟩ = some (.slice ao_gv L_gv cap_gv) := row_at r_g016.out 0
  have c_g016_1 : W16.cell? ⟨g_g0, 1, none⟩ = some (.int .i64 H'.n) := row_at r_g016.out 1
  have c_g016_2 : W16.cell? ⟨g_g0, 2, none⟩ = some (.string H'.r) := row_at r_g016.out 2
  clear r_a15 c_a15_0 c_a15_1 c_a15_2 r_h15 c_h15_0 c_h15_1 r_w015 c_w015_0 c_w015_1 c_w015_2 r_x015 c_x015_0 c_x015_1 c_x015_2 r_g015 c_g015_0 c_g015_1 c_g015_2 o_wv15 o_x15 o_x315 o_gv15
  have f_x116 : Hid (Ohx W16 W7.heap.size W8.heap.size v_x1 t) := Ohx.later f_x115.out b16
  clear f_x115
  go_wp2_with fail
  refine (Strs.eqs_true W16 _ _ x o_x316.out.sl o_u316.out.sl (by omega)).mono ?_
  rintro e W17 ⟨rfl, h17, _⟩
  have b17 : Below W16.heap.size W16 W17 := h17 _
  clear h17
  have z17 : W16.heap.size ≤ W17.heap.size := b17.size
  have B17 : Hid (Below w.heap.size w W17) := B16.out.trans (b17.mono B16.out.size)
  have r_a17 : Hid (W17.heap[w.heap.size]? = some (.cells #[.slice ao0 l.length cap0, .int .i64 hd.n, .string hd.r] 50 (0, 0))) := rowKeep r_a16.out b17
  have r_h17 : Hid (W17.heap[w.heap.size + 1]? = some (.cells #[.int .i64 h.n, .string h.r] 48 (0, 0))) := rowKeep r_h16.out b17
  have r_w017 : Hid (W17.heap[g_w0]? = some (.cells #[.slice ao_wv L_wv cap_wv, .int .i64 H'.n, .string H'.r] 28 (0, 0))) := rowKeep r_w016.out b17
  have r_x017 : Hid (W17.heap[W6.heap.size]? = some (.cells #[.slice ao_x L_x cap_x, .int .i64 hd.n, .string hd.r] 28 (0, 0))) := rowKeep r_x016.out b17
  have r_g017 : Hid (W17.heap[g_g0]? = some (.cells #[.slice ao_gv L_gv cap_gv, .int .i64 H'.n, .string H'.r] 28 (0, 0))) := rowKeep r_g016.out b17
  have o_wv17 : Hid (Own W17 (lo_wv) (hi_wv) 9 (.slice ao_wv L_wv cap_wv) (ss R)) := Own.later o_wv16.out b17 (by omega)
  have o_x17 : Hid (Own W17 (W5.heap.size) (W6.heap.size) 9 (.slice ao_x L_x cap_x) (ss l)) := Own.later o_x16.out b17 (by omega)
  have o_x317 : Hid (Own W17 (W8.heap.size) (W9.heap.size) 9 (.slice ao_x3 L_x3 cap_x3) (ss x)) := Own.later o_x316.out b17 (by omega)
  have o_gv17 : Hid (Own W17 (lo_gv) (hi_gv) 9 (.slice ao_gv L_gv cap_gv) (ss R)) := Own.later o_gv16.out b17 (by omega)
  have o_u317 : Hid (Own W17 (W15.heap.size) (W16.heap.size) 9 (.slice ao_u3 L_u3 cap_u3) (ss x)) := Own.later o_u316.out b17 (by omega)
  have c_a17_0 : W17.cell? ⟨w.heap.size, 0, none⟩ = some (.slice ao0 l.length cap0) := row_at r_a17.out 0
  have c_a17_1 : W17.cell? ⟨w.heap.size, 1, none⟩ = some (.int .i64 hd.n) := row_at r_a17.out 1
  have c_a17_2 : W17.cell? ⟨w.heap.size, 2, none⟩ = some (.string hd.r) := row_at r_a17.out 2
  have c_h17_0 : W17.cell? ⟨w.heap.size + 1, 0, none⟩ = some (.int .i64 h.n) := row_at r_h17.out 0
  have c_h17_1 : W17.cell? ⟨w.heap.size + 1, 1, none⟩ = some (.string h.r) := row_at r_h17.out 1
  have c_w017_0 : W17.cell? ⟨g_w0, 0, none⟩ = some (.slice ao_wv L_wv cap_wv) := row_at r_w017.out 0
  have c_w017_1 : W17.cell? ⟨g_w0, 1, none⟩ = some (.int .i64 H'.n) := row_at r_w017.out 1
  have c_w017_2 : W17.cell? ⟨g_w0, 2, none⟩ = some (.string H'.r) := row_at r_w017.out 2
  have c_x017_0 : W17.cell? ⟨W6.heap.size, 0, none⟩ = some (.slice ao_x L_x cap_x) := row_at r_x017.out 0
  have c_x017_1 : W17.cell? ⟨W6.heap.size, 1, none⟩ = some (.int .i64 hd.n) := row_at r_x017.out 1
  have c_x017_2 : W17.cell? ⟨W6.heap.size, 2, none⟩ = some (.string hd.r) := row_at r_x017.out 2
  have c_g017_0 : W17.cell? ⟨g_g0, 0, none⟩ = some (.slice ao_gv L_gv cap_gv) := row_at r_g017.out 0
  have c_g017_1 : W17.cell? ⟨g_g0, 1, none⟩ = some (.int .i64 H'.n) := row_at r_g017.out 1
  have c_g017_2 : W17.cell? ⟨g_g0, 2, none⟩ = some (.string H'.r) := row_at r_g017.out 2
  clear r_a16 c_a16_0 c_a16_1 c_a16_2 r_h16 c_h16_0 c_h16_1 r_w016 c_w016_0 c_w016_1 c_w016_2 r_x016 c_x016_0 c_x016_1 c_x016_2 r_g016 c_g016_0 c_g016_1 c_g016_2 o_wv16 o_x16 o_x316 o_gv16 o_u316
  have f_x117 : Hid (Ohx W17 W7.heap.size W8.heap.size v_x1 t) := Ohx.later f_x116.out b17
  clear f_x116
  clear o_u317
  obtain ⟨K1, HK1⟩ : ∃ K1 : Nat, Hid (1 + l.length = K1) := ⟨_, rfl⟩
  have hK1 : 1 ≤ K1 ∧ K1 ≤ 2000000 := by have := HK1.out; omega
  have qm := mark_log W17 hd (.slice ao_x L_x cap_x) (W5.heap.size) (W6.heap.size) l 1 o_x17.out (by omega) (by omega) (by omega) (by omega)
  rw [HK1.out] at qm
  go_wp2_with fail
  refine (qm).mono ?_
  rintro e W18 ⟨rfl, o_x18, p18⟩
  have o_x18 : Hid (Own W18 (W5.heap.size) (W6.heap.size) 9 (.slice ao_x L_x cap_x) (ss (Strs.mts 1 l.length))) := o_x18
  have z18 : W17.heap.size ≤ W18.heap.size := p18.size
  have B18 : Hid (Below w.heap.size w W18) := B17.out.trans (p18.below (by have := B17.out.size; omega) B17.out.size)
  have r_a18 : Hid (W18.heap[w.heap.size]? = some (.cells #[.slice ao0 l.length cap0, .int .i64 hd.n, .string hd.r] 50 (0, 0))) := (p18.block (w.heap.size) (by omega) (by omega)).trans r_a17.out
  have r_h18 : Hid (W18.heap[w.heap.size + 1]? = some (.cells #[.int .i64 h.n, .string h.r] 48 (0, 0))) := (p18.block (w.heap.size + 1) (by omega) (by omega)).trans r_h17.out
  have r_w018 : Hid (W18.heap[g_w0]? = some (.cells #[.slice ao_wv L_wv cap_wv, .int .i64 H'.n, .string H'.r] 28 (0, 0))) := (p18.block (g_w0) (by omega) (by omega)).trans r_w017.out
  have r_x018 : Hid (W18.heap[W6.heap.size]? = some (.cells #[.slice ao_x L_x cap_x, .int .i64 hd.n, .string hd.r] 28 (0, 0))) := (p18.block (W6.heap.size) (by omega) (by omega)).trans r_x017.out
  have r_g018 : Hid (W18.heap[g_g0]? = some (.cells #[.slice ao_gv L_gv cap_gv, .int .i64 H'.n, .string H'.r] 28 (0, 0))) := (p18.block (g_g0) (by omega) (by omega)).trans r_g017.out
  have o_wv18 : Hid (Own W18 (lo_wv) (hi_wv) 9 (.slice ao_wv L_wv cap_wv) (ss R)) := Own.apart o_wv17.out p18 (by omega) (by omega)
  have o_x318 : Hid (Own W18 (W8.heap.size) (W9.heap.size) 9 (.slice ao_x3 L_x3 cap_x3) (ss x)) := Own.apart o_x317.out p18 (by omega) (by omega)
  have o_gv18 : Hid (Own W18 (lo_gv) (hi_gv) 9 (.slice ao_gv L_gv cap_gv) (ss R)) := Own.apart o_gv17.out p18 (by omega) (by omega)
  have c_a18_0 : W18.cell? ⟨w.heap.size, 0, none⟩ = some (.slice ao0 l.length cap0) := row_at r_a18.out 0
  have c_a18_1 : W18.cell? ⟨w.heap.size, 1, none⟩ = some (.int .i64 hd.n) := row_at r_a18.out 1
  have c_a18_2 : W18.cell? ⟨w.heap.size, 2, none⟩ = some (.string hd.r) := row_at r_a18.out 2
  have c_h18_0 : W18.cell? ⟨w.heap.size + 1, 0, none⟩ = some (.int .i64 h.n) := row_at r_h18.out 0
  have c_h18_1 : W18.cell? ⟨w.heap.size + 1, 1, none⟩ = some (.string h.r) := row_at r_h18.out 1
  have c_w018_0 : W18.cell? ⟨g_w0, 0, none⟩ = some (.slice ao_wv L_wv cap_wv) := row_at r_w018.out 0
  have c_w018_1 : W18.cell? ⟨g_w0, 1, none⟩ = some (.int .i64 H'.n) := row_at r_w018.out 1
  have c_w018_2 : W18.cell? ⟨g_w0, 2, none⟩ = some (.string H'.r) := row_at r_w018.out 2
  have c_x018_0 : W18.cell? ⟨W6.heap.size, 0, none⟩ = some (.slice ao_x L_x cap_x) := row_at r_x018.out 0
  have c_x018_1 : W18.cell? ⟨W6.heap.size, 1, none⟩ = some (.int .i64 hd.n) := row_at r_x018.out 1
  have c_x018_2 : W18.cell? ⟨W6.heap.size, 2, none⟩ = some (.string hd.r) := row_at r_x018.out 2
  have c_g018_0 : W18.cell? ⟨g_g0, 0, none⟩ = some (.slice ao_gv L_gv cap_gv) := row_at r_g018.out 0
  have c_g018_1 : W18.cell? ⟨g_g0, 1, none⟩ = some (.int .i64 H'.n) := row_at r_g018.out 1
  have c_g018_2 : W18.cell? ⟨g_g0, 2, none⟩ = some (.string H'.r) := row_at r_g018.out 2
  clear r_a17 c_a17_0 c_a17_1 c_a17_2 r_h17 c_h17_0 c_h17_1 r_w017 c_w017_0 c_w017_1 c_w017_2 r_x017 c_x017_0 c_x017_1 c_x017_2 r_g017 c_g017_0 c_g017_1 c_g017_2 o_wv17 o_x17 o_x317 o_gv17
  have f_x118 : Hid (Ohx W18 W7.heap.size W8.heap.size v_x1 t) := Ohx.apart f_x117.out p18 (by omega)
  clear f_x117
  clear qm
  clear o_x18
  clear r_x018 c_x018_0 c_x018_1 c_x018_2
  obtain ⟨K2, HK2⟩ : ∃ K2 : Nat, Hid (K1 + 2 * t.length = K2) := ⟨_, rfl⟩
  have hK2 : 1 ≤ K2 ∧ K2 ≤ 10000000 := by have := HK2.out; omega
  have qm := mark_heads W18 v_x1 (W7.heap.size) (W8.heap.size) t K1 f_x118.out.1 (by omega) (by omega) (by omega) (by omega)
  rw [HK2.out] at qm
  go_wp2_with fail
  refine (qm).mono ?_
  rintro e W19 ⟨rfl, m19, p19⟩
  have z19 : W18.heap.size ≤ W19.heap.size := p19.size
  have B19 : Hid (Below w.heap.size w W19) := B18.out.trans (p19.below (by have := B18.out.size; omega) B18.out.size)
  have r_a19 : Hid (W19.heap[w.heap.size]? = some (.cells #[.slice ao0 l.length cap0, .int .i64 hd.n, .string hd.r] 50 (0, 0))) := (p19.block (w.heap.size) (by omega) (by omega)).trans r_a18.out
  have r_h19 : Hid (W19.heap[w.heap.size + 1]? = some (.cells #[.int .i64 h.n, .string h.r] 48 (0, 0))) := (p19.block (w.heap.size + 1) (by omega) (by omega)).trans r_h18.out
  have r_w019 : Hid (W19.heap[g_w0]? = some (.cells #[.slice ao_wv L_wv cap_wv, .int .i64 H'.n, .string H'.r] 28 (0, 0))) := (p19.block (g_w0) (by omega) (by omega)).trans r_w018.out
  have r_g019 : Hid (W19.heap[g_g0]? = some (.cells #[.slice ao_gv L_gv cap_gv, .int .i64 H'.n, .string H'.r] 28 (0, 0))) := (p19.block (g_g0) (by omega) (by omega)).trans r_g018.out
  have o_wv19 : Hid (Own W19 (lo_wv) (hi_wv) 9 (.slice ao_wv L_wv cap_wv) (ss R)) := Own.apart o_wv18.out p19 (by omega) (by omega)
  have o_x319 : Hid (Own W19 (W8.heap.size) (W9.heap.size) 9 (.slice ao_x3 L_x3 cap_x3) (ss x)) := Own.apart o_x318.out p19 (by omega) (by omega)
  have o_gv19 : Hid (Own W19 (lo_gv) (hi_gv) 9 (.slice ao_gv L_gv cap_gv) (ss R)) := Own.apart o_gv18.out p19 (by omega) (by omega)
  have c_a19_0 : W19.cell? ⟨w.heap.size, 0, none⟩ = some (.slice ao0 l.length cap0) := row_at r_a19.out 0
  have c_a19_1 : W19.cell? ⟨w.heap.size, 1, none⟩ = some (.int .i64 hd.n) := row_at r_a19.out 1
  have c_a19_2 : W19.cell? ⟨w.heap.size, 2, none⟩ = some (.string hd.r) := row_at r_a19.out 2
  have c_h19_0 : W19.cell? ⟨w.heap.size + 1, 0, none⟩ = some (.int .i64 h.n) := row_at r_h19.out 0
  have c_h19_1 : W19.cell? ⟨w.heap.size + 1, 1, none⟩ = some (.string h.r) := row_at r_h19.out 1
  have c_w019_0 : W19.cell? ⟨g_w0, 0, none⟩ = some (.slice ao_wv L_wv cap_wv) := row_at r_w019.out 0
  have c_w019_1 : W19.cell? ⟨g_w0, 1, none⟩ = some (.int .i64 H'.n) := row_at r_w019.out 1
  have c_w019_2 : W19.cell? ⟨g_w0, 2, none⟩ = some (.string H'.r) := row_at r_w019.out 2
  have c_g019_0 : W19.cell? ⟨g_g0, 0, none⟩ = some (.slice ao_gv L_gv cap_gv) := row_at r_g019.out 0
  have c_g019_1 : W19.cell? ⟨g_g0, 1, none⟩ = some (.int .i64 H'.n) := row_at r_g019.out 1
  have c_g019_2 : W19.cell? ⟨g_g0, 2, none⟩ = some (.string H'.r) := row_at r_g019.out 2
  clear r_a18 c_a18_0 c_a18_1 c_a18_2 r_h18 c_h18_0 c_h18_1 r_w018 c_w018_0 c_w018_1 c_w018_2 r_g018 c_g018_0 c_g018_1 c_g018_2 o_wv18 o_x318 o_gv18
  clear f_x118 m19
  clear qm
  go_wp2_with fail
  refine (Strs.marks_any W19 _ (W8.heap.size) (W9.heap.size) x K2 o_x319.out (by omega) (by omega) (by omega) (by omega)).mono ?_
  rintro e W20 ⟨rfl, o_x320, p20⟩
  have o_x320 : Hid (Own W20 (W8.heap.size) (W9.heap.size) 9 (.slice ao_x3 L_x3 cap_x3) (ss (Strs.mts K2 x.length))) := o_x320
  have z20 : W19.heap.size ≤ W20.heap.size := p20.size
  have B20 : Hid (Below w.heap.size w W20) := B19.out.trans (p20.below (by have := B19.out.size; omega) B19.out.size)
  have r_a20 : Hid (W20.heap[w.heap.size]? = some (.cells #[.slice ao0 l.length cap0, .int .i64 hd.n, .string hd.r] 50 (0, 0))) := (p20.block (w.heap.size) (by omega) (by omega)).trans r_a19.out
  have r_h20 : Hid (W20.heap[w.heap.size + 1]? = some (.cells #[.int .i64 h.n, .string h.r] 48 (0, 0))) := (p20.block (w.heap.size + 1) (by omega) (by omega)).trans r_h19.out
  have r_w020 : Hid (W20.heap[g_w0]? = some (.cells #[.slice ao_wv L_wv cap_wv, .int .i64 H'.n, .string H'.r] 28 (0, 0))) := (p20.block (g_w0) (by omega) (by omega)).trans r_w019.out
  have r_g020 : Hid (W20.heap[g_g0]? = some (.cells #[.slice ao_gv L_gv cap_gv, .int .i64 H'.n, .string H'.r] 28 (0, 0))) := (p20.block (g_g0) (by omega) (by omega)).trans r_g019.out
  have o_wv20 : Hid (Own W20 (lo_wv) (hi_wv) 9 (.slice ao_wv L_wv cap_wv) (ss R)) := Own.apart o_wv19.out p20 (by omega) (by omega)
  have o_gv20 : Hid (Own W20 (lo_gv) (hi_gv) 9 (.slice ao_gv L_gv cap_gv) (ss R)) := Own.apart o_gv19.out p20 (by omega) (by omega)
  have c_a20_0 : W20.cell? ⟨w.heap.size, 0, none⟩ = some (.slice ao0 l.length cap0) := row_at r_a20.out 0
  have c_a20_1 : W20.cell? ⟨w.heap.size, 1, none⟩ = some (.int .i64 hd.n) := row_at r_a20.out 1
  have c_a20_2 : W20.cell? ⟨w.heap.size, 2, none⟩ = some (.string hd.r) := row_at r_a20.out 2
  have c_h20_0 : W20.cell? ⟨w.heap.size + 1, 0, none⟩ = some (.int .i64 h.n) := row_at r_h20.out 0
  have c_h20_1 : W20.cell? ⟨w.heap.size + 1, 1, none⟩ = some (.string h.r) := row_at r_h20.out 1
  have c_w020_0 : W20.cell? ⟨g_w0, 0, none⟩ = some (.slice ao_wv L_wv cap_wv) := row_at r_w020.out 0
  have c_w020_1 : W20.cell? ⟨g_w0, 1, none⟩ = some (.int .i64 H'.n) := row_at r_w020.out 1
  have c_w020_2 : W20.cell? ⟨g_w0, 2, none⟩ = some (.string H'.r) := row_at r_w020.out 2
  have c_g020_0 : W20.cell? ⟨g_g0, 0, none⟩ = some (.slice ao_gv L_gv cap_gv) := row_at r_g020.out 0
  have c_g020_1 : W20.cell? ⟨g_g0, 1, none⟩ = some (.int .i64 H'.n) := row_at r_g020.out 1
  have c_g020_2 : W20.cell? ⟨g_g0, 2, none⟩ = some (.string H'.r) := row_at r_g020.out 2
  clear r_a19 c_a19_0 c_a19_1 c_a19_2 r_h19 c_h19_0 c_h19_1 r_w019 c_w019_0 c_w019_1 c_w019_2 r_g019 c_g019_0 c_g019_1 c_g019_2 o_wv19 o_x319 o_gv19
  clear o_x320
  go_wp2_with fail
  refine (eq_log W20 H' _ _ R o_gv20.out.sl o_wv20.out.sl (by omega)).mono ?_
  rintro e W21 ⟨rfl, b21⟩
  have z21 : W20.heap.size ≤ W21.heap.size := b21.size
  have B21 : Hid (Below w.heap.size w W21) := B20.out.trans (b21.mono B20.out.size)
  have r_a21 : Hid (W21.heap[w.heap.size]? = some (.cells #[.slice ao0 l.length cap0, .int .i64 hd.n, .string hd.r] 50 (0, 0))) := rowKeep r_a20.out b21
  have r_h21 : Hid (W21.heap[w.heap.size + 1]? = some (.cells #[.int .i64 h.n, .string h.r] 48 (0, 0))) := rowKeep r_h20.out b21
  have r_w021 : Hid (W21.heap[g_w0]? = some (.cells #[.slice ao_wv L_wv cap_wv, .int .i64 H'.n, .string H'.r] 28 (0, 0))) := rowKeep r_w020.out b21
  have r_g021 : Hid (W21.heap[g_g0]? = some (.cells #[.slice ao_gv L_gv cap_gv, .int .i64 H'.n, .string H'.r] 28 (0, 0))) := rowKeep r_g020.out b21
  have o_wv21 : Hid (Own W21 (lo_wv) (hi_wv) 9 (.slice ao_wv L_wv cap_wv) (ss R)) := Own.later o_wv20.out b21 (by omega)
  have o_gv21 : Hid (Own W21 (lo_gv) (hi_gv) 9 (.slice ao_gv L_gv cap_gv) (ss R)) := Own.later o_gv20.out b21 (by omega)
  have c_a21_0 : W21.cell? ⟨w.heap.size, 0, none⟩ = some (.slice ao0 l.length cap0) := row_at r_a21.out 0
  have c_a21_1 : W21.cell? ⟨w.heap.size, 1, none⟩ = some (.int .i64 hd.n) := row_at r_a21.out 1
  have c_a21_2 : W21.cell? ⟨w.heap.size, 2, none⟩ = some (.string hd.r) := row_at r_a21.out 2
  have c_h21_0 : W21.cell? ⟨w.heap.size + 1, 0, none⟩ = some (.int .i64 h.n) := row_at r_h21.out 0
  have c_h21_1 : W21.cell? ⟨w.heap.size + 1, 1, none⟩ = some (.string h.r) := row_at r_h21.out 1
  have c_w021_0 : W21.cell? ⟨g_w0, 0, none⟩ = some (.slice ao_wv L_wv cap_wv) := row_at r_w021.out 0
  have c_w021_1 : W21.cell? ⟨g_w0, 1, none⟩ = some (.int .i64 H'.n) := row_at r_w021.out 1
  have c_w021_2 : W21.cell? ⟨g_w0, 2, none⟩ = some (.string H'.r) := row_at r_w021.out 2
  have c_g021_0 : W21.cell? ⟨g_g0, 0, none⟩ = some (.slice ao_gv L_gv cap_gv) := row_at r_g021.out 0
  have c_g021_1 : W21.cell? ⟨g_g0, 1, none⟩ = some (.int .i64 H'.n) := row_at r_g021.out 1
  have c_g021_2 : W21.cell? ⟨g_g0, 2, none⟩ = some (.string H'.r) := row_at r_g021.out 2
  clear r_a20 c_a20_0 c_a20_1 c_a20_2 r_h20 c_h20_0 c_h20_1 r_w020 c_w020_0 c_w020_1 c_w020_2 r_g020 c_g020_0 c_g020_1 c_g020_2 o_wv20 o_gv20
  go_wp2_with fail
  refine (mark_log W21 H' _ (lo_gv) (hi_gv) R 1 o_gv21.out (by omega) (by omega) (by omega) (by omega)).mono ?_
  rintro e W22 ⟨rfl, o_gv22, p22⟩
  have o_gv22 : Hid (Own W22 (lo_gv) (hi_gv) 9 (.slice ao_gv L_gv cap_gv) (ss (Strs.mts 1 R.length))) := o_gv22
  have z22 : W21.heap.size ≤ W22.heap.size := p22.size
  have B22 : Hid (Below w.heap.size w W22) := B21.out.trans (p22.below (by have := B21.out.size; omega) B21.out.size)
  have r_a22 : Hid (W22.heap[w.heap.size]? = some (.cells #[.slice ao0 l.length cap0, .int .i64 hd.n, .string hd.r] 50 (0, 0))) := (p22.block (w.heap.size) (by omega) (by omega)).trans r_a21.out
  have r_h22 : Hid (W22.heap[w.heap.size + 1]? = some (.cells #[.int .i64 h.n, .string h.r] 48 (0, 0))) := (p22.block (w.heap.size + 1) (by omega) (by omega)).trans r_h21.out
  have r_w022 : Hid (W22.heap[g_w0]? = some (.cells #[.slice ao_wv L_wv cap_wv, .int .i64 H'.n, .string H'.r] 28 (0, 0))) := (p22.block (g_w0) (by omega) (by omega)).trans r_w021.out
  have r_g022 : Hid (W22.heap[g_g0]? = some (.cells #[.slice ao_gv L_gv cap_gv, .int .i64 H'.n, .string H'.r] 28 (0, 0))) := (p22.block (g_g0) (by omega) (by omega)).trans r_g021.out
  have o_wv22 : Hid (Own W22 (lo_wv) (hi_wv) 9 (.slice ao_wv L_wv cap_wv) (ss R)) := Own.apart o_wv21.out p22 (by omega) (by omega)
  have c_a22_0 : W22.cell? ⟨w.heap.size, 0, none⟩ = some (.slice ao0 l.length cap0) := row_at r_a22.out 0
  have c_a22_1 : W22.cell? ⟨w.heap.size, 1, none⟩ = some (.int .i64 hd.n) := row_at r_a22.out 1
  have c_a22_2 : W22.cell? ⟨w.heap.size, 2, none⟩ = some (.string hd.r) := row_at r_a22.out 2
  have c_h22_0 : W22.cell? ⟨w.heap.size + 1, 0, none⟩ = some (.int .i64 h.n) := row_at r_h22.out 0
  have c_h22_1 : W22.cell? ⟨w.heap.size + 1, 1, none⟩ = some (.string h.r) := row_at r_h22.out 1
  have c_w022_0 : W22.cell? ⟨g_w0, 0, none⟩ = some (.slice ao_wv L_wv cap_wv) := row_at r_w022.out 0
  have c_w022_1 : W22.cell? ⟨g_w0, 1, none⟩ = some (.int .i64 H'.n) := row_at r_w022.out 1
  have c_w022_2 : W22.cell? ⟨g_w0, 2, none⟩ = some (.string H'.r) := row_at r_w022.out 2
  have c_g022_0 : W22.cell? ⟨g_g0, 0, none⟩ = some (.slice ao_gv L_gv cap_gv) := row_at r_g022.out 0
  have c_g022_1 : W22.cell? ⟨g_g0, 1, none⟩ = some (.int .i64 H'.n) := row_at r_g022.out 1
  have c_g022_2 : W22.cell? ⟨g_g0, 2, none⟩ = some (.string H'.r) := row_at r_g022.out 2
  clear r_a21 c_a21_0 c_a21_1 c_a21_2 r_h21 c_h21_0 c_h21_1 r_w021 c_w021_0 c_w021_1 c_w021_2 r_g021 c_g021_0 c_g021_1 c_g021_2 o_wv21 o_gv21
  go_wp2_with fail
  refine (held_log W22 H' _ R.length 1 o_gv22.out.sl (by omega) (by omega) (by omega)).mono ?_
  rintro e W23 ⟨rfl, b23⟩
  have z23 : W22.heap.size ≤ W23.heap.size := b23.size
  have B23 : Hid (Below w.heap.size w W23) := B22.out.trans (b23.mono B22.out.size)
  have r_a23 : Hid (W23.heap[w.heap.size]? = some (.cells #[.slice ao0 l.length cap0, .int .i64 hd.n, .string hd.r] 50 (0, 0))) := rowKeep r_a22.out b23
  have r_h23 : Hid (W23.heap[w.heap.size + 1]? = some (.cells #[.int .i64 h.n, .string h.r] 48 (0, 0))) := rowKeep r_h22.out b23
  have r_w023 : Hid (W23.heap[g_w0]? = some (.cells #[.slice ao_wv L_wv cap_wv, .int .i64 H'.n, .string H'.r] 28 (0, 0))) := rowKeep r_w022.out b23
  have r_g023 : Hid (W23.heap[g_g0]? = some (.cells #[.slice ao_gv L_gv cap_gv, .int .i64 H'.n, .string H'.r] 28 (0, 0))) := rowKeep r_g022.out b23
  have o_wv23 : Hid (Own W23 (lo_wv) (hi_wv) 9 (.slice ao_wv L_wv cap_wv) (ss R)) := Own.later o_wv22.out b23 (by omega)
  have o_gv23 : Hid (Own W23 (lo_gv) (hi_gv) 9 (.slice ao_gv L_gv cap_gv) (ss (Strs.mts 1 R.length))) := Own.later o_gv22.out b23 (by omega)
  have c_a23_0 : W23.cell? ⟨w.heap.size, 0, none⟩ = some (.slice ao0 l.length cap0) := row_at r_a23.out 0
  have c_a23_1 : W23.cell? ⟨w.heap.size, 1, none⟩ = some (.int .i64 hd.n) := row_at r_a23.out 1
  have c_a23_2 : W23.cell? ⟨w.heap.size, 2, none⟩ = some (.string hd.r) := row_at r_a23.out 2
  have c_h23_0 : W23.cell? ⟨w.heap.size + 1, 0, none⟩ = some (.int .i64 h.n) := row_at r_h23.out 0
  have c_h23_1 : W23.cell? ⟨w.heap.size + 1, 1, none⟩ = some (.string h.r) := row_at r_h23.out 1
  have c_w023_0 : W23.cell? ⟨g_w0, 0, none⟩ = some (.slice ao_wv L_wv cap_wv) := row_at r_w023.out 0
  have c_w023_1 : W23.cell? ⟨g_w0, 1, none⟩ = some (.int .i64 H'.n) := row_at r_w023.out 1
  have c_w023_2 : W23.cell? ⟨g_w0, 2, none⟩ = some (.string H'.r) := row_at r_w023.out 2
  have c_g023_0 : W23.cell? ⟨g_g0, 0, none⟩ = some (.slice ao_gv L_gv cap_gv) := row_at r_g023.out 0
  have c_g023_1 : W23.cell? ⟨g_g0, 1, none⟩ = some (.int .i64 H'.n) := row_at r_g023.out 1
  have c_g023_2 : W23.cell? ⟨g_g0, 2, none⟩ = some (.string H'.r) := row_at r_g023.out 2
  clear r_a22 c_a22_0 c_a22_1 c_a22_2 r_h22 c_h22_0 c_h22_1 r_w022 c_w022_0 c_w022_1 c_w022_2 r_g022 c_g022_0 c_g022_1 c_g022_2 o_wv22 o_gv22
  go_upto_region 41 with fail
  go_cut [20, 21] (fun s20 s21 wx => ∃ g : Nat, s20 = .pointer (some ⟨g, 0, none⟩) ∧ s21 = .int .i64 c ∧ W23.heap.size ≤ g ∧ g < wx.heap.size ∧ Below W23.heap.size W23 wx ∧ ∃ lo hi ao L cap, W23.heap.size ≤ lo ∧ hi ≤ wx.heap.size ∧ (g < lo ∨ hi ≤ g) ∧ wx.heap[g]? = some (.cells #[.slice ao L cap, .int .i64 H'.n, .string H'.r] 28 (0, 0)) ∧ Own wx lo hi 9 (.slice ao L cap) (ss R))
  case first =>
    have D23 : Hid (Below W23.heap.size W23 W23) := Below.refl _ _
    refine wp_region_held_drew (S := fun w' => w'.cell? ⟨w.heap.size, 0, none⟩ = some (.slice ao0 l.length cap0) ∧ w'.cell? ⟨w.heap.size, 1, none⟩ = some (.int .i64 hd.n) ∧ w'.cell? ⟨w.heap.size, 2, none⟩ = some (.string hd.r) ∧ w'.cell? ⟨w.heap.size + 1, 0, none⟩ = some (.int .i64 h.n) ∧ w'.cell? ⟨w.heap.size + 1, 1, none⟩ = some (.string h.r)) (by kernel_rfl) ⟨c_a23_0, c_a23_1, c_a23_2, c_h23_0, c_h23_1⟩ (fun hHeld => ?_)
    (refine wpAnyH_take (i := 0) (v := ?v0x57) rfl (by kernel_rfl) (by kernel_rfl) (by kernel_rfl) (fun _ _ _ h => h) (Or.inl ⟨by rfl, ?hy0x57⟩) (by assumption) ?rest0x57; case hy0x57 => (intro w hSw; (try dsimp only at hSw); go_split_ands; go_simp; (try with_reducible rfl)))
    try simp only [Act.put, List.setIfInBounds_toArray, List.set_cons_zero, List.set_cons_succ, List.getElem_toArray, List.getElem_cons_zero, List.getElem_cons_succ]
    (refine wpAnyH_take (i := 2) (v := ?v2x58) rfl (by kernel_rfl) (by kernel_rfl) (by kernel_rfl) (fun _ _ _ h => h) (Or.inl ⟨by rfl, ?hy2x58⟩) (by assumption) ?rest2x58; case hy2x58 => (intro w hSw; (try dsimp only at hSw); go_split_ands; go_simp; (try with_reducible rfl)))
    try simp only [Act.put, List.setIfInBounds_toArray, List.set_cons_zero, List.set_cons_succ, List.getElem_toArray, List.getElem_cons_zero, List.getElem_cons_succ]
    (refine wpAnyH_take (i := 4) (v := ?v4x59) rfl (by kernel_rfl) (by kernel_rfl) (by kernel_rfl) (fun _ _ _ h => h) (Or.inl ⟨by rfl, ?hy4x59⟩) (by assumption) ?rest4x59; case hy4x59 => (intro w hSw; (try dsimp only at hSw); go_split_ands; go_simp; (try with_reducible rfl)))
    try simp only [Act.put, List.setIfInBounds_toArray, List.set_cons_zero, List.set_cons_succ, List.getElem_toArray, List.getElem_cons_zero, List.getElem_cons_succ]
    (refine wpAnyH_take (i := 6) (v := ?v6x60) rfl (by kernel_rfl) (by kernel_rfl) (by kernel_rfl) (fun _ _ _ h => h) (Or.inl ⟨by rfl, ?hy6x60⟩) (by assumption) ?rest6x60; case hy6x60 => (intro w hSw; (try dsimp only at hSw); go_split_ands; go_simp; (try with_reducible rfl)))
    try simp only [Act.put, List.setIfInBounds_toArray, List.set_cons_zero, List.set_cons_succ, List.getElem_toArray, List.getElem_cons_zero, List.getElem_cons_succ]
    clear r_a23 c_a23_0 c_a23_1 c_a23_2
    clear r_h23 c_h23_0 c_h23_1
    clear r_w023 c_w023_0 c_w023_1 c_w023_2
    clear r_g023 c_g023_0 c_g023_1 c_g023_2
    clear o_wv23
    clear o_gv23
    refine wpAnyH_ready (rs := [1, 12]) (by kernel_rfl) (by simp) ?_
    refine AllReadyH.cons rfl (fun K hK => ?_) (AllReadyH.cons rfl (fun K hK => ?_) AllReadyH.nil)
    · go_simp
      refine (to_log W23.drew _ l hd (HS.out.later (Below.drew B23.out)) (by omega)).mono ?_
      rintro e W24 ⟨v_t1, rfl, o_t124, b24⟩
      have b24 : Below W23.heap.size W23 W24 := (Below.drew (Below.refl _ _)).trans b24
      refine hK.out _ _ ⟨(keepR (W := W23) hHeld.1 b24), (keepR (W := W23) hHeld.2.1 b24), (keepR (W := W23) hHeld.2.2.1 b24), (keepR (W := W23) hHeld.2.2.2.1 b24), (keepR (W := W23) hHeld.2.2.2.2 b24)⟩ (fun hHeld => ?_)
      clear hK K
      try simp only [Act.put, List.setIfInBounds_toArray, List.set_cons_zero, List.set_cons_succ, List.getElem_toArray, List.getElem_cons_zero, List.getElem_cons_succ]
      have o_t124 : Own W24 W23.heap.size W24.heap.size 9 _ _ := o_t124
      obtain ⟨ao_t1, L_t1, cap_t1, rfl, hL_t1, hM_t1⟩ := o_t124.form
      have o_t124 : Hid (Own W24 W23.heap.size W24.heap.size 9 (.slice ao_t1 L_t1 cap_t1) (ss l)) := o_t124
      clear hL_t1 hM_t1
      have z24 : W23.heap.size ≤ W24.heap.size := b24.size
      have B24 : Hid (Below w.heap.size w W24) := B23.out.trans (b24.mono B23.out.size)
      have D24 : Hid (Below W23.heap.size W23 W24) := D23.out.trans (b24.mono D23.out.size)
      refine wpAnyH_ready (rs := [3, 12]) (by kernel_rfl) (by simp) ?_
      refine AllReadyH.cons rfl (fun K hK => ?_) (AllReadyH.cons rfl (fun K hK => ?_) AllReadyH.nil)
      · go_simp
        refine (q3 W24 B24.out).mono ?_
        rintro e W25 ⟨v_t2, rfl, o_t225, b25⟩
        refine hK.out _ _ ⟨(keepR (W := W24) hHeld.1 b25), (keepR (W := W24) hHeld.2.1 b25), (keepR (W := W24) hHeld.2.2.1 b25), (keepR (W := W24) hHeld.2.2.2.1 b25), (keepR (W := W24) hHeld.2.2.2.2 b25)⟩ (fun hHeld => ?_)
        clear hK K
        try simp only [Act.put, List.setIfInBounds_toArray, List.set_cons_zero, List.set_cons_succ, List.getElem_toArray, List.getElem_cons_zero, List.getElem_cons_succ]
        have z25 : W24.heap.size ≤ W25.heap.size := b25.size
        have B25 : Hid (Below w.heap.size w W25) := B24.out.trans (b25.mono B24.out.size)
        have o_t125 : Hid (Own W25 (W23.heap.size) (W24.heap.size) 9 (.slice ao_t1 L_t1 cap_t1) (ss l)) := Own.later o_t124.out b25 (by omega)
        clear o_t124
        have D25 : Hid (Below W23.heap.size W23 W25) := D24.out.trans (b25.mono D24.out.size)
        have f_t225 : Hid (Sh W25 v_t2 t) := o_t225.sh
        refine wpAnyH_ready (rs := [5, 12]) (by kernel_rfl) (by simp) ?_
        refine AllReadyH.cons rfl (fun K hK => ?_) (AllReadyH.cons rfl (fun K hK => ?_) AllReadyH.nil)
        · go_simp
          refine (to_head W25 h).mono ?_
          rintro e W26 ⟨rfl, b26⟩
          refine hK.out _ _ ⟨(keepR (W := W25) hHeld.1 b26), (keepR (W := W25) hHeld.2.1 b26), (keepR (W := W25) hHeld.2.2.1 b26), (keepR (W := W25) hHeld.2.2.2.1 b26), (keepR (W := W25) hHeld.2.2.2.2 b26)⟩ (fun hHeld => ?_)
          clear hK K
          try simp only [Act.put, List.setIfInBounds_toArray, List.set_cons_zero, List.set_cons_succ, List.getElem_toArray, List.getElem_cons_zero, List.getElem_cons_succ]
          have z26 : W25.heap.size ≤ W26.heap.size := b26.size
          have B26 : Hid (Below w.heap.size w W26) := B25.out.trans (b26.mono B25.out.size)
          have o_t126 : Hid (Own W26 (W23.heap.size) (W24.heap.size) 9 (.slice ao_t1 L_t1 cap_t1) (ss l)) := Own.later o_t125.out b26 (by omega)
          clear o_t125
          have f_t226 : Hid (Sh W26 v_t2 t) := Sh.later f_t225.out b26
          clear f_t225
          have D26 : Hid (Below W23.heap.size W23 W26) := D25.out.trans (b26.mono D25.out.size)
          refine wpAnyH_ready (rs := [7, 12]) (by kernel_rfl) (by simp) ?_
          refine AllReadyH.cons rfl (fun K hK => ?_) (AllReadyH.cons rfl (fun K hK => ?_) AllReadyH.nil)
          · go_simp
            refine (Strs.to_s W26 _ x (HSX.out.later B26.out) (by omega)).mono ?_
            rintro e W27 ⟨v_t4, rfl, o_t427, b27⟩
            refine hK.out _ _ ⟨(keepR (W := W26) hHeld.1 b27), (keepR (W := W26) hHeld.2.1 b27), (keepR (W := W26) hHeld.2.2.1 b27), (keepR (W := W26) hHeld.2.2.2.1 b27), (keepR (W := W26) hHeld.2.2.2.2 b27)⟩ (fun hHeld => ?_)
            clear hK K
            try simp only [Act.put, List.setIfInBounds_toArray, List.set_cons_zero, List.set_cons_succ, List.getElem_toArray, List.getElem_cons_zero, List.getElem_cons_succ]
            obtain ⟨ao_t4, L_t4, cap_t4, rfl, hL_t4, hM_t4⟩ := o_t427.form
            have o_t427 : Hid (Own W27 W26.heap.size W27.heap.size 9 (.slice ao_t4 L_t4 cap_t4) (ss x)) := o_t427
            clear hL_t4 hM_t4
            have z27 : W26.heap.size ≤ W27.heap.size := b27.size
            have B27 : Hid (Below w.heap.size w W27) := B26.out.trans (b27.mono B26.out.size)
            have o_t127 : Hid (Own W27 (W23.heap.size) (W24.heap.size) 9 (.slice ao_t1 L_t1 cap_t1) (ss l)) := Own.later o_t126.out b27 (by omega)
            clear o_t126
            have f_t227 : Hid (Sh W27 v_t2 t) := Sh.later f_t226.out b27
            clear f_t226
            have D27 : Hid (Below W23.heap.size W23 W27) := D26.out.trans (b27.mono D26.out.size)
            refine wpAnyH_ready (rs := [8, 12]) (by kernel_rfl) (by simp) ?_
            refine AllReadyH.cons rfl (fun K hK => ?_) (AllReadyH.cons rfl (fun K hK => ?_) AllReadyH.nil)
            · go_simp
              refine (q2 W27 _ _ _ B27.out o_t127.out.sl f_t227.out o_t427.out.sl).mono ?_
              rintro e W28 ⟨v_hv, rfl, o_hv28, b28⟩
              refine hK.out _ _ ⟨(keepR (W := W27) hHeld.1 b28), (keepR (W := W27) hHeld.2.1 b28), (keepR (W := W27) hHeld.2.2.1 b28), (keepR (W := W27) hHeld.2.2.2.1 b28), (keepR (W := W27) hHeld.2.2.2.2 b28)⟩ (fun hHeld => ?_)
              clear hK K
              try simp only [Act.put, List.setIfInBounds_toArray, List.set_cons_zero, List.set_cons_succ, List.getElem_toArray, List.getElem_cons_zero, List.getElem_cons_succ]
              obtain ⟨ao_hv, L_hv, cap_hv, rfl, hL_hv, hM_hv⟩ := o_hv28.form
              have o_hv28 : Hid (Own W28 W27.heap.size W28.heap.size 9 (.slice ao_hv L_hv cap_hv) (ss R)) := o_hv28
              clear hL_hv hM_hv
              have z28 : W27.heap.size ≤ W28.heap.size := b28.size
              have B28 : Hid (Below w.heap.size w W28) := B27.out.trans (b28.mono B27.out.size)
              have o_t128 : Hid (Own W28 (W23.heap.size) (W24.heap.size) 9 (.slice ao_t1 L_t1 cap_t1) (ss l)) := Own.later o_t127.out b28 (by omega)
              have o_t428 : Hid (Own W28 (W26.heap.size) (W27.heap.size) 9 (.slice ao_t4 L_t4 cap_t4) (ss x)) := Own.later o_t427.out b28 (by omega)
              clear o_t127 o_t427
              have f_t228 : Hid (Sh W28 v_t2 t) := Sh.later f_t227.out b28
              clear f_t227
              have D28 : Hid (Below W23.heap.size W23 W28) := D27.out.trans (b28.mono D27.out.size)
              (refine wpAnyH_take (i := 9) (v := ?v9x61) rfl (by kernel_rfl) (by kernel_rfl) (by kernel_rfl) (fun _ _ _ h => h) (Or.inl ⟨by rfl, ?hy9x61⟩) (by assumption) ?rest9x61; case hy9x61 => (intro w hSw; (try dsimp only at hSw); go_split_ands; go_simp; (try with_reducible rfl)))
              try simp only [Act.put, List.setIfInBounds_toArray, List.set_cons_zero, List.set_cons_succ, List.getElem_toArray, List.getElem_cons_zero, List.getElem_cons_succ]
              (refine wpAnyH_take (i := 10) (v := ?v10x62) rfl (by kernel_rfl) (by kernel_rfl) (by kernel_rfl) (fun _ _ _ h => h) (Or.inl ⟨by rfl, ?hy10x62⟩) (by assumption) ?rest10x62; case hy10x62 => (intro w hSw; (try dsimp only at hSw); go_split_ands; go_simp; (try with_reducible rfl)))
              try simp only [Act.put, List.setIfInBounds_toArray, List.set_cons_zero, List.set_cons_succ, List.getElem_toArray, List.getElem_cons_zero, List.getElem_cons_succ]
              (refine wpAnyH_take (i := 11) (v := ?v11x63) rfl (by kernel_rfl) (by kernel_rfl) (by kernel_rfl) (fun _ _ _ h => h) (Or.inl ⟨by rfl, ?hy11x63⟩) (by assumption) ?rest11x63; case hy11x63 => (intro w hSw; (try dsimp only at hSw); go_split_ands; go_simp; (try with_reducible rfl)))
              try simp only [Act.put, List.setIfInBounds_toArray, List.set_cons_zero, List.set_cons_succ, List.getElem_toArray, List.getElem_cons_zero, List.getElem_cons_succ]
              refine wpAnyH_ready (rs := [12]) (by kernel_rfl) (by simp) ?_
              refine AllReadyH.cons rfl (fun K hK => ?_) AllReadyH.nil
              go_simp
              refine hK.out _ _ ⟨(keepR (W := W28) hHeld.1 ((Below.refl _ _).alloc (Nat.le_refl _) _)), (keepR (W := W28) hHeld.2.1 ((Below.refl _ _).alloc (Nat.le_refl _) _)), (keepR (W := W28) hHeld.2.2.1 ((Below.refl _ _).alloc (Nat.le_refl _) _)), (keepR (W := W28) hHeld.2.2.2.1 ((Below.refl _ _).alloc (Nat.le_refl _) _)), (keepR (W := W28) hHeld.2.2.2.2 ((Below.refl _ _).alloc (Nat.le_refl _) _))⟩ (fun hHeld => ?_)
              clear hK K
              try simp only [Act.put, List.setIfInBounds_toArray, List.set_cons_zero, List.set_cons_succ, List.getElem_toArray, List.getElem_cons_zero, List.getElem_cons_succ]
              obtain ⟨W29, HW29, b29, y29, r_h029⟩ : ∃ X, Hid ((W28.alloc (.cells #[.slice none 0 0, .int .i64 0, .string ⟨#[]⟩] 28)) = X) ∧ Below W28.heap.size W28 X ∧ W28.heap.size + 1 ≤ X.heap.size ∧ Hid (X.heap[W28.heap.size]? = some (.cells #[.slice none 0 0, .int .i64 0, .string ⟨#[]⟩] 28 (0, 0))) := ⟨_, rfl, ((Below.refl _ _).alloc (Nat.le_refl _) _), (by show _ ≤ (W28.heap.push _).size; simp), heap_alloc_new W28 _⟩
              have HHW29 := HW29.out
              rw [HHW29] at hHeld ⊢
              clear HHW29
              have z29 : W28.heap.size ≤ W29.heap.size := b29.size
              have B29 : Hid (Below w.heap.size w W29) := B28.out.trans (b29.mono B28.out.size)
              have o_t129 : Hid (Own W29 (W23.heap.size) (W24.heap.size) 9 (.slice ao_t1 L_t1 cap_t1) (ss l)) := Own.later o_t128.out b29 (by omega)
              have o_t429 : Hid (Own W29 (W26.heap.size) (W27.heap.size) 9 (.slice ao_t4 L_t4 cap_t4) (ss x)) := Own.later o_t428.out b29 (by omega)
              have o_hv29 : Hid (Own W29 (W27.heap.size) (W28.heap.size) 9 (.slice ao_hv L_hv cap_hv) (ss R)) := Own.later o_hv28.out b29 (by omega)
              have c_h029_0 : W29.cell? ⟨W28.heap.size, 0, none⟩ = some (.slice none 0 0) := row_at r_h029.out 0
              have c_h029_1 : W29.cell? ⟨W28.heap.size, 1, none⟩ = some (.int .i64 0) := row_at r_h029.out 1
              have c_h029_2 : W29.cell? ⟨W28.heap.size, 2, none⟩ = some (.string ⟨#[]⟩) := row_at r_h029.out 2
              clear o_t128 o_t428 o_hv28
              have f_t229 : Hid (Sh W29 v_t2 t) := Sh.later f_t228.out b29
              clear f_t228
              have D29 : Hid (Below W23.heap.size W23 W29) := D28.out.trans (b29.mono D28.out.size)
              refine wpAnyH_ready (rs := [13]) (by kernel_rfl) (by simp) ?_
              refine AllReadyH.cons rfl (fun K hK => ?_) AllReadyH.nil
              rw [if_pos (by rfl)]
              refine wp_store_row 28 _ _ rfl (W28.heap.size) (lc (.slice ao_hv L_hv cap_hv) H') rfl rfl 28 _ r_h029.out (sizeL _ _) rfl (oneL _ rfl) ?_
              refine hK.out _ _ ⟨(cell_row (by show w.heap.size ≠ W28.heap.size; omega) hHeld.1), (cell_row (by show w.heap.size ≠ W28.heap.size; omega) hHeld.2.1), (cell_row (by show w.heap.size ≠ W28.heap.size; omega) hHeld.2.2.1), (cell_row (by show w.heap.size + 1 ≠ W28.heap.size; omega) hHeld.2.2.2.1), (cell_row (by show w.heap.size + 1 ≠ W28.heap.size; omega) hHeld.2.2.2.2)⟩ (fun hHeld => ?_)
              clear hK K
              try simp only [Act.put, List.setIfInBounds_toArray, List.set_cons_zero, List.set_cons_succ, List.getElem_toArray, List.getElem_cons_zero, List.getElem_cons_succ]
              have D30a : Below W23.heap.size W23 (W29.setRow (W28.heap.size) (lc (.slice ao_hv L_hv cap_hv) H')) := below_setRow D29.out (by omega) _
              obtain ⟨W30, HW30⟩ : ∃ X, Hid (W29.setRow (W28.heap.size) (lc (.slice ao_hv L_hv cap_hv) H') = X) := ⟨_, rfl⟩
              have z30 : W29.heap.size ≤ W30.heap.size := by rw [← HW30.out]; simp
              have B30 : Hid (Below w.heap.size w W30) := by show Below _ _ _; rw [← HW30.out]; exact below_setRow B29.out (by have := B29.out.size; omega) _
              have o_t130 : Hid (Own W30 (W23.heap.size) (W24.heap.size) 9 (.slice ao_t1 L_t1 cap_t1) (ss l)) := by show Own _ _ _ _ _ _; rw [← HW30.out]; exact Own.setRow o_t129.out _ (by omega)
              have o_t430 : Hid (Own W30 (W26.heap.size) (W27.heap.size) 9 (.slice ao_t4 L_t4 cap_t4) (ss x)) := by show Own _ _ _ _ _ _; rw [← HW30.out]; exact Own.setRow o_t429.out _ (by omega)
              have o_hv30 : Hid (Own W30 (W27.heap.size) (W28.heap.size) 9 (.slice ao_hv L_hv cap_hv) (ss R)) := by show Own _ _ _ _ _ _; rw [← HW30.out]; exact Own.setRow o_hv29.out _ (by omega)
              have r_h030 : Hid (W30.heap[W28.heap.size]? = some (.cells #[.slice ao_hv L_hv cap_hv, .int .i64 H'.n, .string H'.r] 28 (0, 0))) := by show _ = _; rw [← HW30.out]; exact setRow_heap _ _ _ _ _ (0, 0) r_h029.out
              rw [HW30.out]
              clear r_h029 c_h029_0 c_h029_1 c_h029_2 o_t129 o_t429 o_hv29
              have c_h030_0 : W30.cell? ⟨W28.heap.size, 0, none⟩ = some (.slice ao_hv L_hv cap_hv) := row_at r_h030.out 0
              have c_h030_1 : W30.cell? ⟨W28.heap.size, 1, none⟩ = some (.int .i64 H'.n) := row_at r_h030.out 1
              have c_h030_2 : W30.cell? ⟨W28.heap.size, 2, none⟩ = some (.string H'.r) := row_at r_h030.out 2
              rw [HW30.out] at hHeld
              have D30 : Hid (Below W23.heap.size W23 W30) := by show Below _ _ _; rw [← HW30.out]; exact D30a
              (refine wpAnyH_take (i := 14) (v := ?v14x64) rfl (by kernel_rfl) (by kernel_rfl) (by kernel_rfl) (fun _ _ _ h => h) (Or.inl ⟨by rfl, ?hy14x64⟩) (by assumption) ?rest14x64; case hy14x64 => (intro w hSw; (try dsimp only at hSw); go_split_ands; go_simp; (try with_reducible rfl)))
              try simp only [Act.put, List.setIfInBounds_toArray, List.set_cons_zero, List.set_cons_succ, List.getElem_toArray, List.getElem_cons_zero, List.getElem_cons_succ]
              refine wpAnyH_done (by kernel_rfl) ?_ _
              clear hHeld
              go_wp2_with fail
              go_meet
              exact ⟨W28.heap.size, rfl, rfl, by omega, (Array.getElem?_eq_some_iff.1 r_h030.out).1, D30.out, W27.heap.size, W28.heap.size, ao_hv, L_hv, cap_hv, by omega, by omega, by omega, r_h030.out, o_hv30.out⟩
            · go_simp
              refine hK.out _ _ ⟨(keepR (W := W27) hHeld.1 ((Below.refl _ _).alloc (Nat.le_refl _) _)), (keepR (W := W27) hHeld.2.1 ((Below.refl _ _).alloc (Nat.le_refl _) _)), (keepR (W := W27) hHeld.2.2.1 ((Below.refl _ _).alloc (Nat.le_refl _) _)), (keepR (W := W27) hHeld.2.2.2.1 ((Below.refl _ _).alloc (Nat.le_refl _) _)), (keepR (W := W27) hHeld.2.2.2.2 ((Below.refl _ _).alloc (Nat.le_refl _) _))⟩ (fun hHeld => ?_)
              clear hK K
              try simp only [Act.put, List.setIfInBounds_toArray, List.set_cons_zero, List.set_cons_succ, List.getElem_toArray, List.getElem_cons_zero, List.getElem_cons_succ]
              obtain ⟨W28, HW28, b28, y28, r_h028⟩ : ∃ X, Hid ((W27.alloc (.cells #[.slice none 0 0, .int .i64 0, .string ⟨#[]⟩] 28)) = X) ∧ Below W27.heap.size W27 X ∧ W27.heap.size + 1 ≤ X.heap.size ∧ Hid (X.heap[W27.heap.size]? = some (.cells #[.slice none 0 0, .int .i64 0, .string ⟨#[]⟩] 28 (0, 0))) := ⟨_, rfl, ((Below.refl _ _).alloc (Nat.le_refl _) _), (by show _ ≤ (W27.heap.push _).size; simp), heap_alloc_new W27 _⟩
              have HHW28 := HW28.out
              rw [HHW28] at hHeld ⊢
              clear HHW28
              have z28 : W27.heap.size ≤ W28.heap.size := b28.size
              have B28 : Hid (Below w.heap.size w W28) := B27.out.trans (b28.mono B27.out.size)
              have o_t128 : Hid (Own W28 (W23.heap.size) (W24.heap.size) 9 (.slice ao_t1 L_t1 cap_t1) (ss l)) := Own.later o_t127.out b28 (by omega)
              have o_t428 : Hid (Own W28 (W26.heap.size) (W27.heap.size) 9 (.slice ao_t4 L_t4 cap_t4) (ss x)) := Own.later o_t427.out b28 (by omega)
              have c_h028_0 : W28.cell? ⟨W27.heap.size, 0, none⟩ = some (.slice none 0 0) := row_at r_h028.out 0
              have c_h028_1 : W28.cell? ⟨W27.heap.size, 1, none⟩ = some (.int .i64 0) := row_at r_h028.out 1
              have c_h028_2 : W28.cell? ⟨W27.heap.size, 2, none⟩ = some (.string ⟨#[]⟩) := row_at r_h028.out 2
              clear o_t127 o_t427
              have f_t228 : Hid (Sh W28 v_t2 t) := Sh.later f_t227.out b28
              clear f_t227
              have D28 : Hid (Below W23.heap.size W23 W28) := D27.out.trans (b28.mono D27.out.size)
              refine wpAnyH_ready (rs := [8]) (by kernel_rfl) (by simp) ?_
              refine AllReadyH.cons rfl (fun K hK => ?_) AllReadyH.nil
              go_simp
              refine (q2 W28 _ _ _ B28.out o_t128.out.sl f_t228.out o_t428.out.sl).mono ?_
              rintro e W29 ⟨v_hv, rfl, o_hv29, b29⟩
              refine hK.out _ _ ⟨(keepR (W := W28) hHeld.1 b29), (keepR (W := W28) hHeld.2.1 b29), (keepR (W := W28) hHeld.2.2.1 b29), (keepR (W := W28) hHeld.2.2.2.1 b29), (keepR (W := W28) hHeld.2.2.2.2 b29)⟩ (fun hHeld => ?_)
              clear hK K
              try simp only [Act.put, List.setIfInBounds_toArray, List.set_cons_zero, List.set_cons_succ, List.getElem_toArray, List.getElem_cons_zero, List.getElem_cons_succ]
              obtain ⟨ao_hv, L_hv, cap_hv, rfl, hL_hv, hM_hv⟩ := o_hv29.form
              have o_hv29 : Hid (Own W29 W28.heap.size W29.heap.size 9 (.slice ao_hv L_hv cap_hv) (ss R)) := o_hv29
              clear hL_hv hM_hv
              have z29 : W28.heap.size ≤ W29.heap.size := b29.size
              have B29 : Hid (Below w.heap.size w W29) := B28.out.trans (b29.mono B28.out.size)
              have r_h029 : Hid (W29.heap[W27.heap.size]? = some (.cells #[.slice none 0 0, .int .i64 0, .string ⟨#[]⟩] 28 (0, 0))) := rowKeep r_h028.out b29
              have o_t129 : Hid (Own W29 (W23.heap.size) (W24.heap.size) 9 (.slice ao_t1 L_t1 cap_t1) (ss l)) := Own.later o_t128.out b29 (by omega)
              have o_t429 : Hid (Own W29 (W26.heap.size) (W27.heap.size) 9 (.slice ao_t4 L_t4 cap_t4) (ss x)) := Own.later o_t428.out b29 (by omega)
              have c_h029_0 : W29.cell? ⟨W27.heap.size, 0, none⟩ = some (.slice none 0 0) := row_at r_h029.out 0
              have c_h029_1 : W29.cell? ⟨W27.heap.size, 1, none⟩ = some (.int .i64 0) := row_at r_h029.out 1
              have c_h029_2 : W29.cell? ⟨W27.heap.size, 2, none⟩ = some (.string ⟨#[]⟩) := row_at r_h029.out 2
              clear r_h028 c_h028_0 c_h028_1 c_h028_2 o_t128 o_t428
              have f_t229 : Hid (Sh W29 v_t2 t) := Sh.later f_t228.out b29
              clear f_t228
              have D29 : Hid (Below W23.heap.size W23 W29) := D28.out.trans (b29.mono D28.out.size)
              (refine wpAnyH_take (i := 9) (v := ?v9x65) rfl (by kernel_rfl) (by kernel_rfl) (by kernel_rfl) (fun _ _ _ h => h) (Or.inl ⟨by rfl, ?hy9x65⟩) (by assumption) ?rest9x65; case hy9x65 => (intro w hSw; (try dsimp only at hSw); go_split_ands; go_simp; (try with_reducible rfl)))
              try simp only [Act.put, List.setIfInBounds_toArray, List.set_cons_zero, List.set_cons_succ, List.getElem_toArray, List.getElem_cons_zero, List.getElem_cons_succ]
              (refine wpAnyH_take (i := 10) (v := ?v10x66) rfl (by kernel_rfl) (by kernel_rfl) (by kernel_rfl) (fun _ _ _ h => h) (Or.inl ⟨by rfl, ?hy10x66⟩) (by assumption) ?rest10x66; case hy10x66 => (intro w hSw; (try dsimp only at hSw); go_split_ands; go_simp; (try with_reducible rfl)))
              try simp only [Act.put, List.setIfInBounds_toArray, List.set_cons_zero, List.set_cons_succ, List.getElem_toArray, List.getElem_cons_zero, List.getElem_cons_succ]
              (refine wpAnyH_take (i := 11) (v := ?v11x67) rfl (by kernel_rfl) (by kernel_rfl) (by kernel_rfl) (fun _ _ _ h => h) (Or.inl ⟨by rfl, ?hy11x67⟩) (by assumption) ?rest11x67; case hy11x67 => (intro w hSw; (try dsimp only at hSw); go_split_ands; go_simp; (try with_reducible rfl)))
              try simp only [Act.put, List.setIfInBounds_toArray, List.set_cons_zero, List.set_cons_succ, List.getElem_toArray, List.getElem_cons_zero, List.getElem_cons_succ]
              refine wpAnyH_ready (rs := [13]) (by kernel_rfl) (by simp) ?_
              refine AllReadyH.cons rfl (fun K hK => ?_) AllReadyH.nil
              rw [if_pos (by rfl)]
              refine wp_store_row 28 _ _ rfl (W27.heap.size) (lc (.slice ao_hv L_hv cap_hv) H') rfl rfl 28 _ r_h029.out (sizeL _ _) rfl (oneL _ rfl) ?_
              refine hK.out _ _ ⟨(cell_row (by show w.heap.size ≠ W27.heap.size; omega) hHeld.1), (cell_row (by show w.heap.size ≠ W27.heap.size; omega) hHeld.2.1), (cell_row (by show w.heap.size ≠ W27.heap.size; omega) hHeld.2.2.1), (cell_row (by show w.heap.size + 1 ≠ W27.heap.size; omega) hHeld.2.2.2.1), (cell_row (by show w.heap.size + 1 ≠ W27.heap.size; omega) hHeld.2.2.2.2)⟩ (fun hHeld => ?_)
              clear hK K
              try simp only [Act.put, List.setIfInBounds_toArray, List.set_cons_zero, List.set_cons_succ, List.getElem_toArray, List.getElem_cons_zero, List.getElem_cons_succ]
              have D30a : Below W23.heap.size W23 (W29.setRow (W27.heap.size) (lc (.slice ao_hv L_hv cap_hv) H')) := below_setRow D29.out (by omega) _
              obtain ⟨W30, HW30⟩ : ∃ X, Hid (W29.setRow (W27.heap.size) (lc (.slice ao_hv L_hv cap_hv) H') = X) := ⟨_, rfl⟩
              have z30 : W29.heap.size ≤ W30.heap.size := by rw [← HW30.out]; simp
              have B30 : Hid (Below w.heap.size w W30) := by show Below _ _ _; rw [← HW30.out]; exact below_setRow B29.out (by have := B29.out.size; omega) _
              have o_t130 : Hid (Own W30 (W23.heap.size) (W24.heap.size) 9 (.slice ao_t1 L_t1 cap_t1) (ss l)) := by show Own _ _ _ _ _ _; rw [← HW30.out]; exact Own.setRow o_t129.out _ (by omega)
              have o_t430 : Hid (Own W30 (W26.heap.size) (W27.heap.size) 9 (.slice ao_t4 L_t4 cap_t4) (ss x)) := by show Own _ _ _ _ _ _; rw [← HW30.out]; exact Own.setRow o_t429.out _ (by omega)
              have o_hv30 : Hid (Own W30 (W28.heap.size) (W29.heap.size) 9 (.slice ao_hv L_hv cap_hv) (ss R)) := by show Own _ _ _ _ _ _; rw [← HW30.out]; exact Own.setRow o_hv29.out _ (by omega)
              have r_h030 : Hid (W30.heap[W27.heap.size]? = some (.cells #[.slice ao_hv L_hv cap_hv, .int .i64 H'.n, .string H'.r] 28 (0, 0))) := by show _ = _; rw [← HW30.out]; exact setRow_heap _ _ _ _ _ (0, 0) r_h029.out
              rw [HW30.out]
              clear r_h029 c_h029_0 c_h029_1 c_h029_2 o_t129 o_t429 o_hv29
              have c_h030_0 : W30.cell? ⟨W27.heap.size, 0, none⟩ = some (.slice ao_hv L_hv cap_hv) := row_at r_h030.out 0
              have c_h030_1 : W30.cell? ⟨W27.heap.size, 1, none⟩ = some (.int .i64 H'.n) := row_at r_h030.out 1
              have c_h030_2 : W30.cell? ⟨W27.heap.size, 2, none⟩ = some (.string H'.r) := row_at r_h030.out 2
              rw [HW30.out] at hHeld
              have D30 : Hid (Below W23.heap.size W23 W30) := by show Below _ _ _; rw [← HW30.out]; exact D30a
              (refine wpAnyH_take (i := 14) (v := ?v14x68) rfl (by kernel_rfl) (by kernel_rfl) (by kernel_rfl) (fun _ _ _ h => h) (Or.inl ⟨by rfl, ?hy14x68⟩) (by assumption) ?rest14x68; case hy14x68 => (intro w hSw; (try dsimp only at hSw); go_split_ands; go_simp; (try with_reducible rfl)))
              try simp only [Act.put, List.setIfInBounds_toArray, List.set_cons_zero, List.set_cons_succ, List.getElem_toArray, List.getElem_cons_zero, List.getElem_cons_succ]
              refine wpAnyH_done (by kernel_rfl) ?_ _
              clear hHeld
              go_wp2_with fail
              go_meet
              exact ⟨W27.heap.size, rfl, rfl, by omega, (Array.getElem?_eq_some_iff.1 r_h030.out).1, D30.out, W28.heap.size, W29.heap.size, ao_hv, L_hv, cap_hv, by omega, by omega, by omega, r_h030.out, o_hv30.out⟩
          · go_simp
            refine hK.out _ _ ⟨(keepR (W := W26) hHeld.1 ((Below.refl _ _).alloc (Nat.le_refl _) _)), (keepR (W := W26) hHeld.2.1 ((Below.refl _ _).alloc (Nat.le_refl _) _)), (keepR (W := W26) hHeld.2.2.1 ((Below.refl _ _).alloc (Nat.le_refl _) _)), (keepR (W := W26) hHeld.2.2.2.1 ((Below.refl _ _).alloc (Nat.le_refl _) _)), (keepR (W := W26) hHeld.2.2.2.2 ((Below.refl _ _).alloc (Nat.le_refl _) _))⟩ (fun hHeld => ?_)
            clear hK K
            try simp only [Act.put, List.setIfInBounds_toArray, List.set_cons_zero, List.set_cons_succ, List.getElem_toArray, List.getElem_cons_zero, List.getElem_cons_succ]
            obtain ⟨W27, HW27, b27, y27, r_h027⟩ : ∃ X, Hid ((W26.alloc (.cells #[.slice none 0 0, .int .i64 0, .string ⟨#[]⟩] 28)) = X) ∧ Below W26.heap.size W26 X ∧ W26.heap.size + 1 ≤ X.heap.size ∧ Hid (X.heap[W26.heap.size]? = some (.cells #[.slice none 0 0, .int .i64 0, .string ⟨#[]⟩] 28 (0, 0))) := ⟨_, rfl, ((Below.refl _ _).alloc (Nat.le_refl _) _), (by show _ ≤ (W26.heap.push _).size; simp), heap_alloc_new W26 _⟩
            have HHW27 := HW27.out
            rw [HHW27] at hHeld ⊢
            clear HHW27
            have z27 : W26.heap.size ≤ W27.heap.size := b27.size
            have B27 : Hid (Below w.heap.size w W27) := B26.out.trans (b27.mono B26.out.size)
            have o_t127 : Hid (Own W27 (W23.heap.size) (W24.heap.size) 9 (.slice ao_t1 L_t1 cap_t1) (ss l)) := Own.later o_t126.out b27 (by omega)
            have c_h027_0 : W27.cell? ⟨W26.heap.size, 0, none⟩ = some (.slice none 0 0) := row_at r_h027.out 0
            have c_h027_1 : W27.cell? ⟨W26.heap.size, 1, none⟩ = some (.int .i64 0) := row_at r_h027.out 1
            have c_h027_2 : W27.cell? ⟨W26.heap.size, 2, none⟩ = some (.string ⟨#[]⟩) := row_at r_h027.out 2
            clear o_t126
            have f_t227 : Hid (Sh W27 v_t2 t) := Sh.later f_t226.out b27
            clear f_t226
            have D27 : Hid (Below W23.heap.size W23 W27) := D26.out.trans (b27.mono D26.out.size)
            refine wpAnyH_ready (rs := [7]) (by kernel_rfl) (by simp) ?_
            refine AllReadyH.cons rfl (fun K hK => ?_) AllReadyH.nil
            go_simp
            refine (Strs.to_s W27 _ x (HSX.out.later B27.out) (by omega)).mono ?_
            rintro e W28 ⟨v_t4, rfl, o_t428, b28⟩
            refine hK.out _ _ ⟨(keepR (W := W27) hHeld.1 b28), (keepR (W := W27) hHeld.2.1 b28), (keepR (W := W27) hHeld.2.2.1 b28), (keepR (W := W27) hHeld.2.2.2.1 b28), (keepR (W := W27) hHeld.2.2.2.2 b28)⟩ (fun hHeld => ?_)
            clear hK K
            try simp only [Act.put, List.setIfInBounds_toArray, List.set_cons_zero, List.set_cons_succ, List.getElem_toArray, List.getElem_cons_zero, List.getElem_cons_succ]
            obtain ⟨ao_t4, L_t4, cap_t4, rfl, hL_t4, hM_t4⟩ := o_t428.form
            have o_t428 : Hid (Own W28 W27.heap.size W28.heap.size 9 (.slice ao_t4 L_t4 cap_t4) (ss x)) := o_t428
            clear hL_t4 hM_t4
            have z28 : W27.heap.size ≤ W28.heap.size := b28.size
            have B28 : Hid (Below w.heap.size w W28) := B27.out.trans (b28.mono B27.out.size)
            have r_h028 : Hid (W28.heap[W26.heap.size]? = some (.cells #[.slice none 0 0, .int .i64 0, .string ⟨#[]⟩] 28 (0, 0))) := rowKeep r_h027.out b28
            have o_t128 : Hid (Own W28 (W23.heap.size) (W24.heap.size) 9 (.slice ao_t1 L_t1 cap_t1) (ss l)) := Own.later o_t127.out b28 (by omega)
            have c_h028_0 : W28.cell? ⟨W26.heap.size, 0, none⟩ = some (.slice none 0 0) := row_at r_h028.out 0
            have c_h028_1 : W28.cell? ⟨W26.heap.size, 1, none⟩ = some (.int .i64 0) := row_at r_h028.out 1
            have c_h028_2 : W28.cell? ⟨W26.heap.size, 2, none⟩ = some (.string ⟨#[]⟩) := row_at r_h028.out 2
            clear r_h027 c_h027_0 c_h027_1 c_h027_2 o_t127
            have f_t228 : Hid (Sh W28 v_t2 t) := Sh.later f_t227.out b28
            clear f_t227
            have D28 : Hid (Below W23.heap.size W23 W28) := D27.out.trans (b28.mono D27.out.size)
            refine wpAnyH_ready (rs := [8]) (by kernel_rfl) (by simp) ?_
            refine AllReadyH.cons rfl (fun K hK => ?_) AllReadyH.nil
            go_simp
            refine (q2 W28 _ _ _ B28.out o_t128.out.sl f_t228.out o_t428.out.sl).mono ?_
            rintro e W29 ⟨v_hv, rfl, o_hv29, b29⟩
            refine hK.out _ _ ⟨(keepR (W := W28) hHeld.1 b29), (keepR (W := W28) hHeld.2.1 b29), (keepR (W := W28) hHeld.2.2.1 b29), (keepR (W := W28) hHeld.2.2.2.1 b29), (keepR (W := W28) hHeld.2.2.2.2 b29)⟩ (fun hHeld => ?_)
            clear hK K
            try simp only [Act.put, List.setIfInBounds_toArray, List.set_cons_zero, List.set_cons_succ, List.getElem_toArray, List.getElem_cons_zero, List.getElem_cons_succ]
            obtain ⟨ao_hv, L_hv, cap_hv, rfl, hL_hv, hM_hv⟩ := o_hv29.form
            have o_hv29 : Hid (Own W29 W28.heap.size W29.heap.size 9 (.slice ao_hv L_hv cap_hv) (ss R)) := o_hv29
            clear hL_hv hM_hv
            have z29 : W28.heap.size ≤ W29.heap.size := b29.size
            have B29 : Hid (Below w.heap.size w W29) := B28.out.trans (b29.mono B28.out.size)
            have r_h029 : Hid (W29.heap[W26.heap.size]? = some (.cells #[.slice none 0 0, .int .i64 0, .string ⟨#[]⟩] 28 (0, 0))) := rowKeep r_h028.out b29
            have o_t129 : Hid (Own W29 (W23.heap.size) (W24.heap.size) 9 (.slice ao_t1 L_t1 cap_t1) (ss l)) := Own.later o_t128.out b29 (by omega)
            have o_t429 : Hid (Own W29 (W27.heap.size) (W28.heap.size) 9 (.slice ao_t4 L_t4 cap_t4) (ss x)) := Own.later o_t428.out b29 (by omega)
            have c_h029_0 : W29.cell? ⟨W26.heap.size, 0, none⟩ = some (.slice none 0 0) := row_at r_h029.out 0
            have c_h029_1 : W29.cell? ⟨W26.heap.size, 1, none⟩ = some (.int .i64 0) := row_at r_h029.out 1
            have c_h029_2 : W29.cell? ⟨W26.heap.size, 2, none⟩ = some (.string ⟨#[]⟩) := row_at r_h029.out 2
            clear r_h028 c_h028_0 c_h028_1 c_h028_2 o_t128 o_t428
            have f_t229 : Hid (Sh W29 v_t2 t) := Sh.later f_t228.out b29
            clear f_t228
            have D29 : Hid (Below W23.heap.size W23 W29) := D28.out.trans (b29.mono D28.out.size)
            (refine wpAnyH_take (i := 9) (v := ?v9x69) rfl (by kernel_rfl) (by kernel_rfl) (by kernel_rfl) (fun _ _ _ h => h) (Or.inl ⟨by rfl, ?hy9x69⟩) (by assumption) ?rest9x69; case hy9x69 => (intro w hSw; (try dsimp only at hSw); go_split_ands; go_simp; (try with_reducible rfl)))
            try simp only [Act.put, List.setIfInBounds_toArray, List.set_cons_zero, List.set_cons_succ, List.getElem_toArray, List.getElem_cons_zero, List.getElem_cons_succ]
            (refine wpAnyH_take (i := 10) (v := ?v10x70) rfl (by kernel_rfl) (by kernel_rfl) (by kernel_rfl) (fun _ _ _ h => h) (Or.inl ⟨by rfl, ?hy10x70⟩) (by assumption) ?rest10x70; case hy10x70 => (intro w hSw; (try dsimp only at hSw); go_split_ands; go_simp; (try with_reducible rfl)))
            try simp only [Act.put, List.setIfInBounds_toArray, List.set_cons_zero, List.set_cons_succ, List.getElem_toArray, List.getElem_cons_zero, List.getElem_cons_succ]
            (refine wpAnyH_take (i := 11) (v := ?v11x71) rfl (by kernel_rfl) (by kernel_rfl) (by kernel_rfl) (fun _ _ _ h => h) (Or.inl ⟨by rfl, ?hy11x71⟩) (by assumption) ?rest11x71; case hy11x71 => (intro w hSw; (try dsimp only at hSw); go_split_ands; go_simp; (try with_reducible rfl)))
            try simp only [Act.put, List.setIfInBounds_toArray, List.set_cons_zero, List.set_cons_succ, List.getElem_toArray, List.getElem_cons_zero, List.getElem_cons_succ]
            refine wpAnyH_ready (rs := [13]) (by kernel_rfl) (by simp) ?_
            refine AllReadyH.cons rfl (fun K hK => ?_) AllReadyH.nil
            rw [if_pos (by rfl)]
            refine wp_store_row 28 _ _ rfl (W26.heap.size) (lc (.slice ao_hv L_hv cap_hv) H') rfl rfl 28 _ r_h029.out (sizeL _ _) rfl (oneL _ rfl) ?_
            refine hK.out _ _ ⟨(cell_row (by show w.heap.size ≠ W26.heap.size; omega) hHeld.1), (cell_row (by show w.heap.size ≠ W26.heap.size; omega) hHeld.2.1), (cell_row (by show w.heap.size ≠ W26.heap.size; omega) hHeld.2.2.1), (cell_row (by show w.heap.size + 1 ≠ W26.heap.size; omega) hHeld.2.2.2.1), (cell_row (by show w.heap.size + 1 ≠ W26.heap.size; omega) hHeld.2.2.2.2)⟩ (fun hHeld => ?_)
            clear hK K
            try simp only [Act.put, List.setIfInBounds_toArray, List.set_cons_zero, List.set_cons_succ, List.getElem_toArray, List.getElem_cons_zero, List.getElem_cons_succ]
            have D30a : Below W23.heap.size W23 (W29.setRow (W26.heap.size) (lc (.slice ao_hv L_hv cap_hv) H')) := below_setRow D29.out (by omega) _
            obtain ⟨W30, HW30⟩ : ∃ X, Hid (W29.setRow (W26.heap.size) (lc (.slice ao_hv L_hv cap_hv) H') = X) := ⟨_, rfl⟩
            have z30 : W29.heap.size ≤ W30.heap.size := by rw [← HW30.out]; simp
            have B30 : Hid (Below w.heap.size w W30) := by show Below _ _ _; rw [← HW30.out]; exact below_setRow B29.out (by have := B29.out.size; omega) _
            have o_t130 : Hid (Own W30 (W23.heap.size) (W24.heap.size) 9 (.slice ao_t1 L_t1 cap_t1) (ss l)) := by show Own _ _ _ _ _ _; rw [← HW30.out]; exact Own.setRow o_t129.out _ (by omega)
            have o_t430 : Hid (Own W30 (W27.heap.size) (W28.heap.size) 9 (.slice ao_t4 L_t4 cap_t4) (ss x)) := by show Own _ _ _ _ _ _; rw [← HW30.out]; exact Own.setRow o_t429.out _ (by omega)
            have o_hv30 : Hid (Own W30 (W28.heap.size) (W29.heap.size) 9 (.slice ao_hv L_hv cap_hv) (ss R)) := by show Own _ _ _ _ _ _; rw [← HW30.out]; exact Own.setRow o_hv29.out _ (by omega)
            have r_h030 : Hid (W30.heap[W26.heap.size]? = some (.cells #[.slice ao_hv L_hv cap_hv, .int .i64 H'.n, .string H'.r] 28 (0, 0))) := by show _ = _; rw [← HW30.out]; exact setRow_heap _ _ _ _ _ (0, 0) r_h029.out
            rw [HW30.out]
            clear r_h029 c_h029_0 c_h029_1 c_h029_2 o_t129 o_t429 o_hv29
            have c_h030_0 : W30.cell? ⟨W26.heap.size, 0, none⟩ = some (.slice ao_hv L_hv cap_hv) := row_at r_h030.out 0
            have c_h030_1 : W30.cell? ⟨W26.heap.size, 1, none⟩ = some (.int .i64 H'.n) := row_at r_h030.out 1
            have c_h030_2 : W30.cell? ⟨W26.heap.size, 2, none⟩ = some (.string H'.r) := row_at r_h030.out 2
            rw [HW30.out] at hHeld
            have D30 : Hid (Below W23.heap.size W23 W30) := by show Below _ _ _; rw [← HW30.out]; exact D30a
            (refine wpAnyH_take (i := 14) (v := ?v14x72) rfl (by kernel_rfl) (by kernel_rfl) (by kernel_rfl) (fun _ _ _ h => h) (Or.inl ⟨by rfl, ?hy14x72⟩) (by assumption) ?rest14x72; case hy14x72 => (intro w hSw; (try dsimp only at hSw); go_split_ands; go_simp; (try with_reducible rfl)))
            try simp only [Act.put, List.setIfInBounds_toArray, List.set_cons_zero, List.set_cons_succ, List.getElem_toArray, List.getElem_cons_zero, List.getElem_cons_succ]
            refine wpAnyH_done (by kernel_rfl) ?_ _
            clear hHeld
            go_wp2_with fail
            go_meet
            exact ⟨W26.heap.size, rfl, rfl, by omega, (Array.getElem?_eq_some_iff.1 r_h030.out).1, D30.out, W28.heap.size, W29.heap.size, ao_hv, L_hv, cap_hv, by omega, by omega, by omega, r_h030.out, o_hv30.out⟩
        · go_simp
          refine hK.out _ _ ⟨(keepR (W := W25) hHeld.1 ((Below.refl _ _).alloc (Nat.le_refl _) _)), (keepR (W := W25) hHeld.2.1 ((Below.refl _ _).alloc (Nat.le_refl _) _)), (keepR (W := W25) hHeld.2.2.1 ((Below.refl _ _).alloc (Nat.le_refl _) _)), (keepR (W := W25) hHeld.2.2.2.1 ((Below.refl _ _).alloc (Nat.le_refl _) _)), (keepR (W := W25) hHeld.2.2.2.2 ((Below.refl _ _).alloc (Nat.le_refl _) _))⟩ (fun hHeld => ?_)
          clear hK K
          try simp only [Act.put, List.setIfInBounds_toArray, List.set_cons_zero, List.set_cons_succ, List.getElem_toArray, List.getElem_cons_zero, List.getElem_cons_succ]
          obtain ⟨W26, HW26, b26, y26, r_h026⟩ : ∃ X, Hid ((W25.alloc (.cells #[.slice none 0 0, .int .i64 0, .string ⟨#[]⟩] 28)) = X) ∧ Below W25.heap.size W25 X ∧ W25.heap.size + 1 ≤ X.heap.size ∧ Hid (X.heap[W25.heap.size]? = some (.cells #[.slice none 0 0, .int .i64 0, .string ⟨#[]⟩] 28 (0, 0))) := ⟨_, rfl, ((Below.refl _ _).alloc (Nat.le_refl _) _), (by show _ ≤ (W25.heap.push _).size; simp), heap_alloc_new W25 _⟩
          have HHW26 := HW26.out
          rw [HHW26] at hHeld ⊢
          clear HHW26
          have z26 : W25.heap.size ≤ W26.heap.size := b26.size
          have B26 : Hid (Below w.heap.size w W26) := B25.out.trans (b26.mono B25.out.size)
          have o_t126 : Hid (Own W26 (W23.heap.size) (W24.heap.size) 9 (.slice ao_t1 L_t1 cap_t1) (ss l)) := Own.later o_t125.out b26 (by omega)
          have c_h026_0 : W26.cell? ⟨W25.heap.size, 0, none⟩ = some (.slice none 0 0) := row_at r_h026.out 0
          have c_h026_1 : W26.cell? ⟨W25.heap.size, 1, none⟩ = some (.int .i64 0) := row_at r_h026.out 1
          have c_h026_2 : W26.cell? ⟨W25.heap.size, 2, none⟩ = some (.string ⟨#[]⟩) := row_at r_h026.out 2
          clear o_t125
          have f_t226 : Hid (Sh W26 v_t2 t) := Sh.later f_t225.out b26
          clear f_t225
          have D26 : Hid (Below W23.heap.size W23 W26) := D25.out.trans (b26.mono D25.out.size)
          refine wpAnyH_ready (rs := [5]) (by kernel_rfl) (by simp) ?_
          refine AllReadyH.cons rfl (fun K hK => ?_) AllReadyH.nil
          go_simp
          refine (to_head W26 h).mono ?_
          rintro e W27 ⟨rfl, b27⟩
          refine hK.out _ _ ⟨(keepR (W := W26) hHeld.1 b27), (keepR (W := W26) hHeld.2.1 b27), (keepR (W := W26) hHeld.2.2.1 b27), (keepR (W := W26) hHeld.2.2.2.1 b27), (keepR (W := W26) hHeld.2.2.2.2 b27)⟩ (fun hHeld => ?_)
          clear hK K
          try simp only [Act.put, List.setIfInBounds_toArray, List.set_cons_zero, List.set_cons_succ, List.getElem_toArray, List.getElem_cons_zero, List.getElem_cons_succ]
          have z27 : W26.heap.size ≤ W27.heap.size := b27.size
          have B27 : Hid (Below w.heap.size w W27) := B26.out.trans (b27.mono B26.out.size)
          have r_h027 : Hid (W27.heap[W25.heap.size]? = some (.cells #[.slice none 0 0, .int .i64 0, .string ⟨#[]⟩] 28 (0, 0))) := rowKeep r_h026.out b27
          have o_t127 : Hid (Own W27 (W23.heap.size) (W24.heap.size) 9 (.slice ao_t1 L_t1 cap_t1) (ss l)) := Own.later o_t126.out b27 (by omega)
          have c_h027_0 : W27.cell? ⟨W25.heap.size, 0, none⟩ = some (.slice none 0 0) := row_at r_h027.out 0
          have c_h027_1 : W27.cell? ⟨W25.heap.size, 1, none⟩ = some (.int .i64 0) := row_at r_h027.out 1
          have c_h027_2 : W27.cell? ⟨W25.heap.size, 2, none⟩ = some (.string ⟨#[]⟩) := row_at r_h027.out 2
          clear r_h026 c_h026_0 c_h026_1 c_h026_2 o_t126
          have f_t227 : Hid (Sh W27 v_t2 t) := Sh.later f_t226.out b27
          clear f_t226
          have D27 : Hid (Below W23.heap.size W23 W27) := D26.out.trans (b27.mono D26.out.size)
          refine wpAnyH_ready (rs := [7]) (by kernel_rfl) (by simp) ?_
          refine AllReadyH.cons rfl (fun K hK => ?_) AllReadyH.nil
          go_simp
          refine (Strs.to_s W27 _ x (HSX.out.later B27.out) (by omega)).mono ?_
          rintro e W28 ⟨v_t4, rfl, o_t428, b28⟩
          refine hK.out _ _ ⟨(keepR (W := W27) hHeld.1 b28), (keepR (W := W27) hHeld.2.1 b28), (keepR (W := W27) hHeld.2.2.1 b28), (keepR (W := W27) hHeld.2.2.2.1 b28), (keepR (W := W27) hHeld.2.2.2.2 b28)⟩ (fun hHeld => ?_)
          clear hK K
          try simp only [Act.put, List.setIfInBounds_toArray, List.set_cons_zero, List.set_cons_succ, List.getElem_toArray, List.getElem_cons_zero, List.getElem_cons_succ]
          obtain ⟨ao_t4, L_t4, cap_t4, rfl, hL_t4, hM_t4⟩ := o_t428.form
          have o_t428 : Hid (Own W28 W27.heap.size W28.heap.size 9 (.slice ao_t4 L_t4 cap_t4) (ss x)) := o_t428
          clear hL_t4 hM_t4
          have z28 : W27.heap.size ≤ W28.heap.size := b28.size
          have B28 : Hid (Below w.heap.size w W28) := B27.out.trans (b28.mono B27.out.size)
          have r_h028 : Hid (W28.heap[W25.heap.size]? = some (.cells #[.slice none 0 0, .int .i64 0, .string ⟨#[]⟩] 28 (0, 0))) := rowKeep r_h027.out b28
          have o_t128 : Hid (Own W28 (W23.heap.size) (W24.heap.size) 9 (.slice ao_t1 L_t1 cap_t1) (ss l)) := Own.later o_t127.out b28 (by omega)
          have c_h028_0 : W28.cell? ⟨W25.heap.size, 0, none⟩ = some (.slice none 0 0) := row_at r_h028.out 0
          have c_h028_1 : W28.cell? ⟨W25.heap.size, 1, none⟩ = some (.int .i64 0) := row_at r_h028.out 1
          have c_h028_2 : W28.cell? ⟨W25.heap.size, 2, none⟩ = some (.string ⟨#[]⟩) := row_at r_h028.out 2
          clear r_h027 c_h027_0 c_h027_1 c_h027_2 o_t127
          have f_t228 : Hid (Sh W28 v_t2 t) := Sh.later f_t227.out b28
          clear f_t227
          have D28 : Hid (Below W23.heap.size W23 W28) := D27.out.trans (b28.mono D27.out.size)
          refine wpAnyH_ready (rs := [8]) (by kernel_rfl) (by simp) ?_
          refine AllReadyH.cons rfl (fun K hK => ?_) AllReadyH.nil
          go_simp
          refine (q2 W28 _ _ _ B28.out o_t128.out.sl f_t228.out o_t428.out.sl).mono ?_
          rintro e W29 ⟨v_hv, rfl, o_hv29, b29⟩
          refine hK.out _ _ ⟨(keepR (W := W28) hHeld.1 b29), (keepR (W := W28) hHeld.2.1 b29), (keepR (W := W28) hHeld.2.2.1 b29), (keepR (W := W28) hHeld.2.2.2.1 b29), (keepR (W := W28) hHeld.2.2.2.2 b29)⟩ (fun hHeld => ?_)
          clear hK K
          try simp only [Act.put, List.setIfInBounds_toArray, List.set_cons_zero, List.set_cons_succ, List.getElem_toArray, List.getElem_cons_zero, List.getElem_cons_succ]
          obtain ⟨ao_hv, L_hv, cap_hv, rfl, hL_hv, hM_hv⟩ := o_hv29.form
          have o_hv29 : Hid (Own W29 W28.heap.size W29.heap.size 9 (.slice ao_hv L_hv cap_hv) (ss R)) := o_hv29
          clear hL_hv hM_hv
          have z29 : W28.heap.size ≤ W29.heap.size := b29.size
          have B29 : Hid (Below w.heap.size w W29) := B28.out.trans (b29.mono B28.out.size)
          have r_h029 : Hid (W29.heap[W25.heap.size]? = some (.cells #[.slice none 0 0, .int .i64 0, .string ⟨#[]⟩] 28 (0, 0))) := rowKeep r_h028.out b29
          have o_t129 : Hid (Own W29 (W23.heap.size) (W24.heap.size) 9 (.slice ao_t1 L_t1 cap_t1) (ss l)) := Own.later o_t128.out b29 (by omega)
          have o_t429 : Hid (Own W29 (W27.heap.size) (W28.heap.size) 9 (.slice ao_t4 L_t4 cap_t4) (ss x)) := Own.later o_t428.out b29 (by omega)
          have c_h029_0 : W29.cell? ⟨W25.heap.size, 0, none⟩ = some (.slice none 0 0) := row_at r_h029.out 0
          have c_h029_1 : W29.cell? ⟨W25.heap.size, 1, none⟩ = some (.int .i64 0) := row_at r_h029.out 1
          have c_h029_2 : W29.cell? ⟨W25.heap.size, 2, none⟩ = some (.string ⟨#[]⟩) := row_at r_h029.out 2
          clear r_h028 c_h028_0 c_h028_1 c_h028_2 o_t128 o_t428
          have f_t229 : Hid (Sh W29 v_t2 t) := Sh.later f_t228.out b29
          clear f_t228
          have D29 : Hid (Below W23.heap.size W23 W29) := D28.out.trans (b29.mono D28.out.size)
          (refine wpAnyH_take (i := 9) (v := ?v9x73) rfl (by kernel_rfl) (by kernel_rfl) (by kernel_rfl) (fun _ _ _ h => h) (Or.inl ⟨by rfl, ?hy9x73⟩) (by assumption) ?rest9x73; case hy9x73 => (intro w hSw; (try dsimp only at hSw); go_split_ands; go_simp; (try with_reducible rfl)))
          try simp only [Act.put, List.setIfInBounds_toArray, List.set_cons_zero, List.set_cons_succ, List.getElem_toArray, List.getElem_cons_zero, List.getElem_cons_succ]
          (refine wpAnyH_take (i := 10) (v := ?v10x74) rfl (by kernel_rfl) (by kernel_rfl) (by kernel_rfl) (fun _ _ _ h => h) (Or.inl ⟨by rfl, ?hy10x74⟩) (by assumption) ?rest10x74; case hy10x74 => (intro w hSw; (try dsimp only at hSw); go_split_ands; go_simp; (try with_reducible rfl)))
          try simp only [Act.put, List.setIfInBounds_toArray, List.set_cons_zero, List.set_cons_succ, List.getElem_toArray, List.getElem_cons_zero, List.getElem_cons_succ]
          (refine wpAnyH_take (i := 11) (v := ?v11x75) rfl (by kernel_rfl) (by kernel_rfl) (by kernel_rfl) (fun _ _ _ h => h) (Or.inl ⟨by rfl, ?hy11x75⟩) (by assumption) ?rest11x75; case hy11x75 => (intro w hSw; (try dsimp only at hSw); go_split_ands; go_simp; (try with_reducible rfl)))
          try simp only [Act.put, List.setIfInBounds_toArray, List.set_cons_zero, List.set_cons_succ, List.getElem_toArray, List.getElem_cons_zero, List.getElem_cons_succ]
          refine wpAnyH_ready (rs := [13]) (by kernel_rfl) (by simp) ?_
          refine AllReadyH.cons rfl (fun K hK => ?_) AllReadyH.nil
          rw [if_pos (by rfl)]
          refine wp_store_row 28 _ _ rfl (W25.heap.size) (lc (.slice ao_hv L_hv cap_hv) H') rfl rfl 28 _ r_h029.out (sizeL _ _) rfl (oneL _ rfl) ?_
          refine hK.out _ _ ⟨(cell_row (by show w.heap.size ≠ W25.heap.size; omega) hHeld.1), (cell_row (by show w.heap.size ≠ W25.heap.size; omega) hHeld.2.1), (cell_row (by show w.heap.size ≠ W25.heap.size; omega) hHeld.2.2.1), (cell_row (by show w.heap.size + 1 ≠ W25.heap.size; omega) hHeld.2.2.2.1), (cell_row (by show w.heap.size + 1 ≠ W25.heap.size; omega) hHeld.2.2.2.2)⟩ (fun hHeld => ?_)
          clear hK K
          try simp only [Act.put, List.setIfInBounds_toArray, List.set_cons_zero, List.set_cons_succ, List.getElem_toArray, List.getElem_cons_zero, List.getElem_cons_succ]
          have D30a : Below W23.heap.size W23 (W29.setRow (W25.heap.size) (lc (.slice ao_hv L_hv cap_hv) H')) := below_setRow D29.out (by omega) _
          obtain ⟨W30, HW30⟩ : ∃ X, Hid (W29.setRow (W25.heap.size) (lc (.slice ao_hv L_hv cap_hv) H') = X) := ⟨_, rfl⟩
          have z30 : W29.heap.size ≤ W30.heap.size := by rw [← HW30.out]; simp
          have B30 : Hid (Below w.heap.size w W30) := by show Below _ _ _; rw [← HW30.out]; exact below_setRow B29.out (by have := B29.out.size; omega) _
          have o_t130 : Hid (Own W30 (W23.heap.size) (W24.heap.size) 9 (.slice ao_t1 L_t1 cap_t1) (ss l)) := by show Own _ _ _ _ _ _; rw [← HW30.out]; exact Own.setRow o_t129.out _ (by omega)
          have o_t430 : Hid (Own W30 (W27.heap.size) (W28.heap.size) 9 (.slice ao_t4 L_t4 cap_t4) (ss x)) := by show Own _ _ _ _ _ _; rw [← HW30.out]; exact Own.setRow o_t429.out _ (by omega)
          have o_hv30 : Hid (Own W30 (W28.heap.size) (W29.heap.size) 9 (.slice ao_hv L_hv cap_hv) (ss R)) := by show Own _ _ _ _ _ _; rw [← HW30.out]; exact Own.setRow o_hv29.out _ (by omega)
          have r_h030 : Hid (W30.heap[W25.heap.size]? = some (.cells #[.slice ao_hv L_hv cap_hv, .int .i64 H'.n, .string H'.r] 28 (0, 0))) := by show _ = _; rw [← HW30.out]; exact setRow_heap _ _ _ _ _ (0, 0) r_h029.out
          rw [HW30.out]
          clear r_h029 c_h029_0 c_h029_1 c_h029_2 o_t129 o_t429 o_hv29
          have c_h030_0 : W30.cell? ⟨W25.heap.size, 0, none⟩ = some (.slice ao_hv L_hv cap_hv) := row_at r_h030.out 0
          have c_h030_1 : W30.cell? ⟨W25.heap.size, 1, none⟩ = some (.int .i64 H'.n) := row_at r_h030.out 1
          have c_h030_2 : W30.cell? ⟨W25.heap.size, 2, none⟩ = some (.string H'.r) := row_at r_h030.out 2
          rw [HW30.out] at hHeld
          have D30 : Hid (Below W23.heap.size W23 W30) := by show Below _ _ _; rw [← HW30.out]; exact D30a
          (refine wpAnyH_take (i := 14) (v := ?v14x76) rfl (by kernel_rfl) (by kernel_rfl) (by kernel_rfl) (fun _ _ _ h => h) (Or.inl ⟨by rfl, ?hy14x76⟩) (by assumption) ?rest14x76; case hy14x76 => (intro w hSw; (try dsimp only at hSw); go_split_ands; go_simp; (try with_reducible rfl)))
          try simp only [Act.put, List.setIfInBounds_toArray, List.set_cons_zero, List.set_cons_succ, List.getElem_toArray, List.getElem_cons_zero, List.getElem_cons_succ]
          refine wpAnyH_done (by kernel_rfl) ?_ _
          clear hHeld
          go_wp2_with fail
          go_meet
          exact ⟨W25.heap.size, rfl, rfl, by omega, (Array.getElem?_eq_some_iff.1 r_h030.out).1, D30.out, W28.heap.size, W29.heap.size, ao_hv, L_hv, cap_hv, by omega, by omega, by omega, r_h030.out, o_hv30.out⟩
      · go_simp
        refine hK.out _ _ ⟨(keepR (W := W24) hHeld.1 ((Below.refl _ _).alloc (Nat.le_refl _) _)), (keepR (W := W24) hHeld.2.1 ((Below.refl _ _).alloc (Nat.le_refl _) _)), (keepR (W := W24) hHeld.2.2.1 ((Below.refl _ _).alloc (Nat.le_refl _) _)), (keepR (W := W24) hHeld.2.2.2.1 ((Below.refl _ _).alloc (Nat.le_refl _) _)), (keepR (W := W24) hHeld.2.2.2.2 ((Below.refl _ _).alloc (Nat.le_refl _) _))⟩ (fun hHeld => ?_)
        clear hK K
        try simp only [Act.put, List.setIfInBounds_toArray, List.set_cons_zero, List.set_cons_succ, List.getElem_toArray, List.getElem_cons_zero, List.getElem_cons_succ]
        obtain ⟨W25, HW25, b25, y25, r_h025⟩ : ∃ X, Hid ((W24.alloc (.cells #[.slice none 0 0, .int .i64 0, .string ⟨#[]⟩] 28)) = X) ∧ Below W24.heap.size W24 X ∧ W24.heap.size + 1 ≤ X.heap.size ∧ Hid (X.heap[W24.heap.size]? = some (.cells #[.slice none 0 0, .int .i64 0, .string ⟨#[]⟩] 28 (0, 0))) := ⟨_, rfl, ((Below.refl _ _).alloc (Nat.le_refl _) _), (by show _ ≤ (W24.heap.push _).size; simp), heap_alloc_new W24 _⟩
        have HHW25 := HW25.out
        rw [HHW25] at hHeld ⊢
        clear HHW25
        have z25 : W24.heap.size ≤ W25.heap.size := b25.size
        have B25 : Hid (Below w.heap.size w W25) := B24.out.trans (b25.mono B24.out.size)
        have o_t125 : Hid (Own W25 (W23.heap.size) (W24.heap.size) 9 (.slice ao_t1 L_t1 cap_t1) (ss l)) := Own.later o_t124.out b25 (by omega)
        have c_h025_0 : W25.cell? ⟨W24.heap.size, 0, none⟩ = some (.slice none 0 0) := row_at r_h025.out 0
        have c_h025_1 : W25.cell? ⟨W24.heap.size, 1, none⟩ = some (.int .i64 0) := row_at r_h025.out 1
        have c_h025_2 : W25.cell? ⟨W24.heap.size, 2, none⟩ = some (.string ⟨#[]⟩) := row_at r_h025.out 2
        clear o_t124
        have D25 : Hid (Below W23.heap.size W23 W25) := D24.out.trans (b25.mono D24.out.size)
        refine wpAnyH_ready (rs := [3]) (by kernel_rfl) (by simp) ?_
        refine AllReadyH.cons rfl (fun K hK => ?_) AllReadyH.nil
        go_simp
        refine (q3 W25 B25.out).mono ?_
        rintro e W26 ⟨v_t2, rfl, o_t226, b26⟩
        refine hK.out _ _ ⟨(keepR (W := W25) hHeld.1 b26), (keepR (W := W25) hHeld.2.1 b26), (keepR (W := W25) hHeld.2.2.1 b26), (keepR (W := W25) hHeld.2.2.2.1 b26), (keepR (W := W25) hHeld.2.2.2.2 b26)⟩ (fun hHeld => ?_)
        clear hK K
        try simp only [Act.put, List.setIfInBounds_toArray, List.set_cons_zero, List.set_cons_succ, List.getElem_toArray, List.getElem_cons_zero, List.getElem_cons_succ]
        have z26 : W25.heap.size ≤ W26.heap.size := b26.size
        have B26 : Hid (Below w.heap.size w W26) := B25.out.trans (b26.mono B25.out.size)
        have r_h026 : Hid (W26.heap[W24.heap.size]? = some (.cells #[.slice none 0 0, .int .i64 0, .string ⟨#[]⟩] 28 (0, 0))) := rowKeep r_h025.out b26
        have o_t126 : Hid (Own W26 (W23.heap.size) (W24.heap.size) 9 (.slice ao_t1 L_t1 cap_t1) (ss l)) := Own.later o_t125.out b26 (by omega)
        have c_h026_0 : W26.cell? ⟨W24.heap.size, 0, none⟩ = some (.slice none 0 0) := row_at r_h026.out 0
        have c_h026_1 : W26.cell? ⟨W24.heap.size, 1, none⟩ = some (.int .i64 0) := row_at r_h026.out 1
        have c_h026_2 : W26.cell? ⟨W24.heap.size, 2, none⟩ = some (.string ⟨#[]⟩) := row_at r_h026.out 2
        clear r_h025 c_h025_0 c_h025_1 c_h025_2 o_t125
        have D26 : Hid (Below W23.heap.size W23 W26) := D25.out.trans (b26.mono D25.out.size)
        have f_t226 : Hid (Sh W26 v_t2 t) := o_t226.sh
        refine wpAnyH_ready (rs := [5]) (by kernel_rfl) (by simp) ?_
        refine AllReadyH.cons rfl (fun K hK => ?_) AllReadyH.nil
        go_simp
        refine (to_head W26 h).mono ?_
        rintro e W27 ⟨rfl, b27⟩
        refine hK.out _ _ ⟨(keepR (W := W26) hHeld.1 b27), (keepR (W := W26) hHeld.2.1 b27), (keepR (W := W26) hHeld.2.2.1 b27), (keepR (W := W26) hHeld.2.2.2.1 b27), (keepR (W := W26) hHeld.2.2.2.2 b27)⟩ (fun hHeld => ?_)
        clear hK K
        try simp only [Act.put, List.setIfInBounds_toArray, List.set_cons_zero, List.set_cons_succ, List.getElem_toArray, List.getElem_cons_zero, List.getElem_cons_succ]
        have z27 : W26.heap.size ≤ W27.heap.size := b27.size
        have B27 : Hid (Below w.heap.size w W27) := B26.out.trans (b27.mono B26.out.size)
        have r_h027 : Hid (W27.heap[W24.heap.size]? = some (.cells #[.slice none 0 0, .int .i64 0, .string ⟨#[]⟩] 28 (0, 0))) := rowKeep r_h026.out b27
        have o_t127 : Hid (Own W27 (W23.heap.size) (W24.heap.size) 9 (.slice ao_t1 L_t1 cap_t1) (ss l)) := Own.later o_t126.out b27 (by omega)
        have c_h027_0 : W27.cell? ⟨W24.heap.size, 0, none⟩ = some (.slice none 0 0) := row_at r_h027.out 0
        have c_h027_1 : W27.cell? ⟨W24.heap.size, 1, none⟩ = some (.int .i64 0) := row_at r_h027.out 1
        have c_h027_2 : W27.cell? ⟨W24.heap.size, 2, none⟩ = some (.string ⟨#[]⟩) := row_at r_h027.out 2
        clear r_h026 c_h026_0 c_h026_1 c_h026_2 o_t126
        have f_t227 : Hid (Sh W27 v_t2 t) := Sh.later f_t226.out b27
        clear f_t226
        have D27 : Hid (Below W23.heap.size W23 W27) := D26.out.trans (b27.mono D26.out.size)
        refine wpAnyH_ready (rs := [7]) (by kernel_rfl) (by simp) ?_
        refine AllReadyH.cons rfl (fun K hK => ?_) AllReadyH.nil
        go_simp
        refine (Strs.to_s W27 _ x (HSX.out.later B27.out) (by omega)).mono ?_
        rintro e W28 ⟨v_t4, rfl, o_t428, b28⟩
        refine hK.out _ _ ⟨(keepR (W := W27) hHeld.1 b28), (keepR (W := W27) hHeld.2.1 b28), (keepR (W := W27) hHeld.2.2.1 b28), (keepR (W := W27) hHeld.2.2.2.1 b28), (keepR (W := W27) hHeld.2.2.2.2 b28)⟩ (fun hHeld => ?_)
        clear hK K
        try simp only [Act.put, List.setIfInBounds_toArray, List.set_cons_zero, List.set_cons_succ, List.getElem_toArray, List.getElem_cons_zero, List.getElem_cons_succ]
        obtain ⟨ao_t4, L_t4, cap_t4, rfl, hL_t4, hM_t4⟩ := o_t428.form
        have o_t428 : Hid (Own W28 W27.heap.size W28.heap.size 9 (.slice ao_t4 L_t4 cap_t4) (ss x)) := o_t428
        clear hL_t4 hM_t4
        have z28 : W27.heap.size ≤ W28.heap.size := b28.size
        have B28 : Hid (Below w.heap.size w W28) := B27.out.trans (b28.mono B27.out.size)
        have r_h028 : Hid (W28.heap[W24.heap.size]? = some (.cells #[.slice none 0 0, .int .i64 0, .string ⟨#[]⟩] 28 (0, 0))) := rowKeep r_h027.out b28
        have o_t128 : Hid (Own W28 (W23.heap.size) (W24.heap.size) 9 (.slice ao_t1 L_t1 cap_t1) (ss l)) := Own.later o_t127.out b28 (by omega)
        have c_h028_0 : W28.cell? ⟨W24.heap.size, 0, none⟩ = some (.slice none 0 0) := row_at r_h028.out 0
        have c_h028_1 : W28.cell? ⟨W24.heap.size, 1, none⟩ = some (.int .i64 0) := row_at r_h028.out 1
        have c_h028_2 : W28.cell? ⟨W24.heap.size, 2, none⟩ = some (.string ⟨#[]⟩) := row_at r_h028.out 2
        clear r_h027 c_h027_0 c_h027_1 c_h027_2 o_t127
        have f_t228 : Hid (Sh W28 v_t2 t) := Sh.later f_t227.out b28
        clear f_t227
        have D28 : Hid (Below W23.heap.size W23 W28) := D27.out.trans (b28.mono D27.out.size)
        refine wpAnyH_ready (rs := [8]) (by kernel_rfl) (by simp) ?_
        refine AllReadyH.cons rfl (fun K hK => ?_) AllReadyH.nil
        go_simp
        refine (q2 W28 _ _ _ B28.out o_t128.out.sl f_t228.out o_t428.out.sl).mono ?_
        rintro e W29 ⟨v_hv, rfl, o_hv29, b29⟩
        refine hK.out _ _ ⟨(keepR (W := W28) hHeld.1 b29), (keepR (W := W28) hHeld.2.1 b29), (keepR (W := W28) hHeld.2.2.1 b29), (keepR (W := W28) hHeld.2.2.2.1 b29), (keepR (W := W28) hHeld.2.2.2.2 b29)⟩ (fun hHeld => ?_)
        clear hK K
        try simp only [Act.put, List.setIfInBounds_toArray, List.set_cons_zero, List.set_cons_succ, List.getElem_toArray, List.getElem_cons_zero, List.getElem_cons_succ]
        obtain ⟨ao_hv, L_hv, cap_hv, rfl, hL_hv, hM_hv⟩ := o_hv29.form
        have o_hv29 : Hid (Own W29 W28.heap.size W29.heap.size 9 (.slice ao_hv L_hv cap_hv) (ss R)) := o_hv29
        clear hL_hv hM_hv
        have z29 : W28.heap.size ≤ W29.heap.size := b29.size
        have B29 : Hid (Below w.heap.size w W29) := B28.out.trans (b29.mono B28.out.size)
        have r_h029 : Hid (W29.heap[W24.heap.size]? = some (.cells #[.slice none 0 0, .int .i64 0, .string ⟨#[]⟩] 28 (0, 0))) := rowKeep r_h028.out b29
        have o_t129 : Hid (Own W29 (W23.heap.size) (W24.heap.size) 9 (.slice ao_t1 L_t1 cap_t1) (ss l)) := Own.later o_t128.out b29 (by omega)
        have o_t429 : Hid (Own W29 (W27.heap.size) (W28.heap.size) 9 (.slice ao_t4 L_t4 cap_t4) (ss x)) := Own.later o_t428.out b29 (by omega)
        have c_h029_0 : W29.cell? ⟨W24.heap.size, 0, none⟩ = some (.slice none 0 0) := row_at r_h029.out 0
        have c_h029_1 : W29.cell? ⟨W24.heap.size, 1, none⟩ = some (.int .i64 0) := row_at r_h029.out 1
        have c_h029_2 : W29.cell? ⟨W24.heap.size, 2, none⟩ = some (.string ⟨#[]⟩) := row_at r_h029.out 2
        clear r_h028 c_h028_0 c_h028_1 c_h028_2 o_t128 o_t428
        have f_t229 : Hid (Sh W29 v_t2 t) := Sh.later f_t228.out b29
        clear f_t228
        have D29 : Hid (Below W23.heap.size W23 W29) := D28.out.trans (b29.mono D28.out.size)
        (refine wpAnyH_take (i := 9) (v := ?v9x77) rfl (by kernel_rfl) (by kernel_rfl) (by kernel_rfl) (fun _ _ _ h => h) (Or.inl ⟨by rfl, ?hy9x77⟩) (by assumption) ?rest9x77; case hy9x77 => (intro w hSw; (try dsimp only at hSw); go_split_ands; go_simp; (try with_reducible rfl)))
        try simp only [Act.put, List.setIfInBounds_toArray, List.set_cons_zero, List.set_cons_succ, List.getElem_toArray, List.getElem_cons_zero, List.getElem_cons_succ]
        (refine wpAnyH_take (i := 10) (v := ?v10x78) rfl (by kernel_rfl) (by kernel_rfl) (by kernel_rfl) (fun _ _ _ h => h) (Or.inl ⟨by rfl, ?hy10x78⟩) (by assumption) ?rest10x78; case hy10x78 => (intro w hSw; (try dsimp only at hSw); go_split_ands; go_simp; (try with_reducible rfl)))
        try simp only [Act.put, List.setIfInBounds_toArray, List.set_cons_zero, List.set_cons_succ, List.getElem_toArray, List.getElem_cons_zero, List.getElem_cons_succ]
        (refine wpAnyH_take (i := 11) (v := ?v11x79) rfl (by kernel_rfl) (by kernel_rfl) (by kernel_rfl) (fun _ _ _ h => h) (Or.inl ⟨by rfl, ?hy11x79⟩) (by assumption) ?rest11x79; case hy11x79 => (intro w hSw; (try dsimp only at hSw); go_split_ands; go_simp; (try with_reducible rfl)))
        try simp only [Act.put, List.setIfInBounds_toArray, List.set_cons_zero, List.set_cons_succ, List.getElem_toArray, List.getElem_cons_zero, List.getElem_cons_succ]
        refine wpAnyH_ready (rs := [13]) (by kernel_rfl) (by simp) ?_
        refine AllReadyH.cons rfl (fun K hK => ?_) AllReadyH.nil
        rw [if_pos (by rfl)]
        refine wp_store_row 28 _ _ rfl (W24.heap.size) (lc (.slice ao_hv L_hv cap_hv) H') rfl rfl 28 _ r_h029.out (sizeL _ _) rfl (oneL _ rfl) ?_
        refine hK.out _ _ ⟨(cell_row (by show w.heap.size ≠ W24.heap.size; omega) hHeld.1), (cell_row (by show w.heap.size ≠ W24.heap.size; omega) hHeld.2.1), (cell_row (by show w.heap.size ≠ W24.heap.size; omega) hHeld.2.2.1), (cell_row (by show w.heap.size + 1 ≠ W24.heap.size; omega) hHeld.2.2.2.1), (cell_row (by show w.heap.size + 1 ≠ W24.heap.size; omega) hHeld.2.2.2.2)⟩ (fun hHeld => ?_)
        clear hK K
        try simp only [Act.put, List.setIfInBounds_toArray, List.set_cons_zero, List.set_cons_succ, List.getElem_toArray, List.getElem_cons_zero, List.getElem_cons_succ]
        have D30a : Below W23.heap.size W23 (W29.setRow (W24.heap.size) (lc (.slice ao_hv L_hv cap_hv) H')) := below_setRow D29.out (by omega) _
        obtain ⟨W30, HW30⟩ : ∃ X, Hid (W29.setRow (W24.heap.size) (lc (.slice ao_hv L_hv cap_hv) H') = X) := ⟨_, rfl⟩
        have z30 : W29.heap.size ≤ W30.heap.size := by rw [← HW30.out]; simp
        have B30 : Hid (Below w.heap.size w W30) := by show Below _ _ _; rw [← HW30.out]; exact below_setRow B29.out (by have := B29.out.size; omega) _
        have o_t130 : Hid (Own W30 (W23.heap.size) (W24.heap.size) 9 (.slice ao_t1 L_t1 cap_t1) (ss l)) := by show Own _ _ _ _ _ _; rw [← HW30.out]; exact Own.setRow o_t129.out _ (by omega)
        have o_t430 : Hid (Own W30 (W27.heap.size) (W28.heap.size) 9 (.slice ao_t4 L_t4 cap_t4) (ss x)) := by show Own _ _ _ _ _ _; rw [← HW30.out]; exact Own.setRow o_t429.out _ (by omega)
        have o_hv30 : Hid (Own W30 (W28.heap.size) (W29.heap.size) 9 (.slice ao_hv L_hv cap_hv) (ss R)) := by show Own _ _ _ _ _ _; rw [← HW30.out]; exact Own.setRow o_hv29.out _ (by omega)
        have r_h030 : Hid (W30.heap[W24.heap.size]? = some (.cells #[.slice ao_hv L_hv cap_hv, .int .i64 H'.n, .string H'.r] 28 (0, 0))) := by show _ = _; rw [← HW30.out]; exact setRow_heap _ _ _ _ _ (0, 0) r_h029.out
        rw [HW30.out]
        clear r_h029 c_h029_0 c_h029_1 c_h029_2 o_t129 o_t429 o_hv29
        have c_h030_0 : W30.cell? ⟨W24.heap.size, 0, none⟩ = some (.slice ao_hv L_hv cap_hv) := row_at r_h030.out 0
        have c_h030_1 : W30.cell? ⟨W24.heap.size, 1, none⟩ = some (.int .i64 H'.n) := row_at r_h030.out 1
        have c_h030_2 : W30.cell? ⟨W24.heap.size, 2, none⟩ = some (.string H'.r) := row_at r_h030.out 2
        rw [HW30.out] at hHeld
        have D30 : Hid (Below W23.heap.size W23 W30) := by show Below _ _ _; rw [← HW30.out]; exact D30a
        (refine wpAnyH_take (i := 14) (v := ?v14x80) rfl (by kernel_rfl) (by kernel_rfl) (by kernel_rfl) (fun _ _ _ h => h) (Or.inl ⟨by rfl, ?hy14x80⟩) (by assumption) ?rest14x80; case hy14x80 => (intro w hSw; (try dsimp only at hSw); go_split_ands; go_simp; (try with_reducible rfl)))
        try simp only [Act.put, List.setIfInBounds_toArray, List.set_cons_zero, List.set_cons_succ, List.getElem_toArray, List.getElem_cons_zero, List.getElem_cons_succ]
        refine wpAnyH_done (by kernel_rfl) ?_ _
        clear hHeld
        go_wp2_with fail
        go_meet
        exact ⟨W24.heap.size, rfl, rfl, by omega, (Array.getElem?_eq_some_iff.1 r_h030.out).1, D30.out, W28.heap.size, W29.heap.size, ao_hv, L_hv, cap_hv, by omega, by omega, by omega, r_h030.out, o_hv30.out⟩
    · go_simp
      refine hK.out _ _ ⟨(keepR (W := W23.drew) hHeld.1 ((Below.refl _ _).alloc (Nat.le_refl _) _)), (keepR (W := W23.drew) hHeld.2.1 ((Below.refl _ _).alloc (Nat.le_refl _) _)), (keepR (W := W23.drew) hHeld.2.2.1 ((Below.refl _ _).alloc (Nat.le_refl _) _)), (keepR (W := W23.drew) hHeld.2.2.2.1 ((Below.refl _ _).alloc (Nat.le_refl _) _)), (keepR (W := W23.drew) hHeld.2.2.2.2 ((Below.refl _ _).alloc (Nat.le_refl _) _))⟩ (fun hHeld => ?_)
      clear hK K
      try simp only [Act.put, List.setIfInBounds_toArray, List.set_cons_zero, List.set_cons_succ, List.getElem_toArray, List.getElem_cons_zero, List.getElem_cons_succ]
      obtain ⟨W24, HW24, b24, y24, r_h024⟩ : ∃ X, Hid ((W23.alloc (.cells #[.slice none 0 0, .int .i64 0, .string ⟨#[]⟩] 28)).drew = X) ∧ Below W23.heap.size W23 X ∧ W23.heap.size + 1 ≤ X.heap.size ∧ Hid (X.heap[W23.heap.size]? = some (.cells #[.slice none 0 0, .int .i64 0, .string ⟨#[]⟩] 28 (0, 0))) := ⟨_, rfl, (Below.drew ((Below.refl _ _).alloc (Nat.le_refl _) _)), (by show _ ≤ (W23.heap.push _).size; simp), heap_alloc_new W23 _⟩
      have HHW24 := HW24.out
      rw [HHW24] at hHeld ⊢
      clear HHW24
      have z24 : W23.heap.size ≤ W24.heap.size := b24.size
      have B24 : Hid (Below w.heap.size w W24) := B23.out.trans (b24.mono B23.out.size)
      have c_h024_0 : W24.cell? ⟨W23.heap.size, 0, none⟩ = some (.slice none 0 0) := row_at r_h024.out 0
      have c_h024_1 : W24.cell? ⟨W23.heap.size, 1, none⟩ = some (.int .i64 0) := row_at r_h024.out 1
      have c_h024_2 : W24.cell? ⟨W23.heap.size, 2, none⟩ = some (.string ⟨#[]⟩) := row_at r_h024.out 2
      have D24 : Hid (Below W23.heap.size W23 W24) := D23.out.trans (b24.mono D23.out.size)
      refine wpAnyH_ready (rs := [1]) (by kernel_rfl) (by simp) ?_
      refine AllReadyH.cons rfl (fun K hK => ?_) AllReadyH.nil
      go_simp
      refine (to_log W24 _ l hd (HS.out.later B24.out) (by omega)).mono ?_
      rintro e W25 ⟨v_t1, rfl, o_t125, b25⟩
      refine hK.out _ _ ⟨(keepR (W := W24) hHeld.1 b25), (keepR (W := W24) hHeld.2.1 b25), (keepR (W := W24) hHeld.2.2.1 b25), (keepR (W := W24) hHeld.2.2.2.1 b25), (keepR (W := W24) hHeld.2.2.2.2 b25)⟩ (fun hHeld => ?_)
      clear hK K
      try simp only [Act.put, List.setIfInBounds_toArray, List.set_cons_zero, List.set_cons_succ, List.getElem_toArray, List.getElem_cons_zero, List.getElem_cons_succ]
      obtain ⟨ao_t1, L_t1, cap_t1, rfl, hL_t1, hM_t1⟩ := o_t125.form
      have o_t125 : Hid (Own W25 W24.heap.size W25.heap.size 9 (.slice ao_t1 L_t1 cap_t1) (ss l)) := o_t125
      clear hL_t1 hM_t1
      have z25 : W24.heap.size ≤ W25.heap.size := b25.size
      have B25 : Hid (Below w.heap.size w W25) := B24.out.trans (b25.mono B24.out.size)
      have r_h025 : Hid (W25.heap[W23.heap.size]? = some (.cells #[.slice none 0 0, .int .i64 0, .string ⟨#[]⟩] 28 (0, 0))) := rowKeep r_h024.out b25
      have c_h025_0 : W25.cell? ⟨W23.heap.size, 0, none⟩ = some (.slice none 0 0) := row_at r_h025.out 0
      have c_h025_1 : W25.cell? ⟨W23.heap.size, 1, none⟩ = some (.int .i64 0) := row_at r_h025.out 1
      have c_h025_2 : W25.cell? ⟨W23.heap.size, 2, none⟩ = some (.string ⟨#[]⟩) := row_at r_h025.out 2
      clear r_h024 c_h024_0 c_h024_1 c_h024_2
      have D25 : Hid (Below W23.heap.size W23 W25) := D24.out.trans (b25.mono D24.out.size)
      refine wpAnyH_ready (rs := [3]) (by kernel_rfl) (by simp) ?_
      refine AllReadyH.cons rfl (fun K hK => ?_) AllReadyH.nil
      go_simp
      refine (q3 W25 B25.out).mono ?_
      rintro e W26 ⟨v_t2, rfl, o_t226, b26⟩
      refine hK.out _ _ ⟨(keepR (W := W25) hHeld.1 b26), (keepR (W := W25) hHeld.2.1 b26), (keepR (W := W25) hHeld.2.2.1 b26), (keepR (W := W25) hHeld.2.2.2.1 b26), (keepR (W := W25) hHeld.2.2.2.2 b26)⟩ (fun hHeld => ?_)
      clear hK K
      try simp only [Act.put, List.setIfInBounds_toArray, List.set_cons_zero, List.set_cons_succ, List.getElem_toArray, List.getElem_cons_zero, List.getElem_cons_succ]
      have z26 : W25.heap.size ≤ W26.heap.size := b26.size
      have B26 : Hid (Below w.heap.size w W26) := B25.out.trans (b26.mono B25.out.size)
      have r_h026 : Hid (W26.heap[W23.heap.size]? = some (.cells #[.slice none 0 0, .int .i64 0, .string ⟨#[]⟩] 28 (0, 0))) := rowKeep r_h025.out b26
      have o_t126 : Hid (Own W26 (W24.heap.size) (W25.heap.size) 9 (.slice ao_t1 L_t1 cap_t1) (ss l)) := Own.later o_t125.out b26 (by omega)
      have c_h026_0 : W26.cell? ⟨W23.heap.size, 0, none⟩ = some (.slice none 0 0) := row_at r_h026.out 0
      have c_h026_1 : W26.cell? ⟨W23.heap.size, 1, none⟩ = some (.int .i64 0) := row_at r_h026.out 1
      have c_h026_2 : W26.cell? ⟨W23.heap.size, 2, none⟩ = some (.string ⟨#[]⟩) := row_at r_h026.out 2
      clear r_h025 c_h025_0 c_h025_1 c_h025_2 o_t125
      have D26 : Hid (Below W23.heap.size W23 W26) := D25.out.trans (b26.mono D25.out.size)
      have f_t226 : Hid (Sh W26 v_t2 t) := o_t226.sh
      refine wpAnyH_ready (rs := [5]) (by kernel_rfl) (by simp) ?_
      refine AllReadyH.cons rfl (fun K hK => ?_) AllReadyH.nil
      go_simp
      refine (to_head W26 h).mono ?_
      rintro e W27 ⟨rfl, b27⟩
      refine hK.out _ _ ⟨(keepR (W := W26) hHeld.1 b27), (keepR (W := W26) hHeld.2.1 b27), (keepR (W := W26) hHeld.2.2.1 b27), (keepR (W := W26) hHeld.2.2.2.1 b27), (keepR (W := W26) hHeld.2.2.2.2 b27)⟩ (fun hHeld => ?_)
      clear hK K
      try simp only [Act.put, List.setIfInBounds_toArray, List.set_cons_zero, List.set_cons_succ, List.getElem_toArray, List.getElem_cons_zero, List.getElem_cons_succ]
      have z27 : W26.heap.size ≤ W27.heap.size := b27.size
      have B27 : Hid (Below w.heap.size w W27) := B26.out.trans (b27.mono B26.out.size)
      have r_h027 : Hid (W27.heap[W23.heap.size]? = some (.cells #[.slice none 0 0, .int .i64 0, .string ⟨#[]⟩] 28 (0, 0))) := rowKeep r_h026.out b27
      have o_t127 : Hid (Own W27 (W24.heap.size) (W25.heap.size) 9 (.slice ao_t1 L_t1 cap_t1) (ss l)) := Own.later o_t126.out b27 (by omega)
      have c_h027_0 : W27.cell? ⟨W23.heap.size, 0, none⟩ = some (.slice none 0 0) := row_at r_h027.out 0
      have c_h027_1 : W27.cell? ⟨W23.heap.size, 1, none⟩ = some (.int .i64 0) := row_at r_h027.out 1
      have c_h027_2 : W27.cell? ⟨W23.heap.size, 2, none⟩ = some (.string ⟨#[]⟩) := row_at r_h027.out 2
      clear r_h026 c_h026_0 c_h026_1 c_h026_2 o_t126
      have f_t227 : Hid (Sh W27 v_t2 t) := Sh.later f_t226.out b27
      clear f_t226
      have D27 : Hid (Below W23.heap.size W23 W27) := D26.out.trans (b27.mono D26.out.size)
      refine wpAnyH_ready (rs := [7]) (by kernel_rfl) (by simp) ?_
      refine AllReadyH.cons rfl (fun K hK => ?_) AllReadyH.nil
      go_simp
      refine (Strs.to_s W27 _ x (HSX.out.later B27.out) (by omega)).mono ?_
      rintro e W28 ⟨v_t4, rfl, o_t428, b28⟩
      refine hK.out _ _ ⟨(keepR (W := W27) hHeld.1 b28), (keepR (W := W27) hHeld.2.1 b28), (keepR (W := W27) hHeld.2.2.1 b28), (keepR (W := W27) hHeld.2.2.2.1 b28), (keepR (W := W27) hHeld.2.2.2.2 b28)⟩ (fun hHeld => ?_)
      clear hK K
      try simp only [Act.put, List.setIfInBounds_toArray, List.set_cons_zero, List.set_cons_succ, List.getElem_toArray, List.getElem_cons_zero, List.getElem_cons_succ]
      obtain ⟨ao_t4, L_t4, cap_t4, rfl, hL_t4, hM_t4⟩ := o_t428.form
      have o_t428 : Hid (Own W28 W27.heap.size W28.heap.size 9 (.slice ao_t4 L_t4 cap_t4) (ss x)) := o_t428
      clear hL_t4 hM_t4
      have z28 : W27.heap.size ≤ W28.heap.size := b28.size
      have B28 : Hid (Below w.heap.size w W28) := B27.out.trans (b28.mono B27.out.size)
      have r_h028 : Hid (W28.heap[W23.heap.size]? = some (.cells #[.slice none 0 0, .int .i64 0, .string ⟨#[]⟩] 28 (0, 0))) := rowKeep r_h027.out b28
      have o_t128 : Hid (Own W28 (W24.heap.size) (W25.heap.size) 9 (.slice ao_t1 L_t1 cap_t1) (ss l)) := Own.later o_t127.out b28 (by omega)
      have c_h028_0 : W28.cell? ⟨W23.heap.size, 0, none⟩ = some (.slice none 0 0) := row_at r_h028.out 0
      have c_h028_1 : W28.cell? ⟨W23.heap.size, 1, none⟩ = some (.int .i64 0) := row_at r_h028.out 1
      have c_h028_2 : W28.cell? ⟨W23.heap.size, 2, none⟩ = some (.string ⟨#[]⟩) := row_at r_h028.out 2
      clear r_h027 c_h027_0 c_h027_1 c_h027_2 o_t127
      have f_t228 : Hid (Sh W28 v_t2 t) := Sh.later f_t227.out b28
      clear f_t227
      have D28 : Hid (Below W23.heap.size W23 W28) := D27.out.trans (b28.mono D27.out.size)
      refine wpAnyH_ready (rs := [8]) (by kernel_rfl) (by simp) ?_
      refine AllReadyH.cons rfl (fun K hK => ?_) AllReadyH.nil
      go_simp
      refine (q2 W28 _ _ _ B28.out o_t128.out.sl f_t228.out o_t428.out.sl).mono ?_
      rintro e W29 ⟨v_hv, rfl, o_hv29, b29⟩
      refine hK.out _ _ ⟨(keepR (W := W28) hHeld.1 b29), (keepR (W := W28) hHeld.2.1 b29), (keepR (W := W28) hHeld.2.2.1 b29), (keepR (W := W28) hHeld.2.2.2.1 b29), (keepR (W := W28) hHeld.2.2.2.2 b29)⟩ (fun hHeld => ?_)
      clear hK K
      try simp only [Act.put, List.setIfInBounds_toArray, List.set_cons_zero, List.set_cons_succ, List.getElem_toArray, List.getElem_cons_zero, List.getElem_cons_succ]
      obtain ⟨ao_hv, L_hv, cap_hv, rfl, hL_hv, hM_hv⟩ := o_hv29.form
      have o_hv29 : Hid (Own W29 W28.heap.size W29.heap.size 9 (.slice ao_hv L_hv cap_hv) (ss R)) := o_hv29
      clear hL_hv hM_hv
      have z29 : W28.heap.size ≤ W29.heap.size := b29.size
      have B29 : Hid (Below w.heap.size w W29) := B28.out.trans (b29.mono B28.out.size)
      have r_h029 : Hid (W29.heap[W23.heap.size]? = some (.cells #[.slice none 0 0, .int .i64 0, .string ⟨#[]⟩] 28 (0, 0))) := rowKeep r_h028.out b29
      have o_t129 : Hid (Own W29 (W24.heap.size) (W25.heap.size) 9 (.slice ao_t1 L_t1 cap_t1) (ss l)) := Own.later o_t128.out b29 (by omega)
      have o_t429 : Hid (Own W29 (W27.heap.size) (W28.heap.size) 9 (.slice ao_t4 L_t4 cap_t4) (ss x)) := Own.later o_t428.out b29 (by omega)
      have c_h029_0 : W29.cell? ⟨W23.heap.size, 0, none⟩ = some (.slice none 0 0) := row_at r_h029.out 0
      have c_h029_1 : W29.cell? ⟨W23.heap.size, 1, none⟩ = some (.int .i64 0) := row_at r_h029.out 1
      have c_h029_2 : W29.cell? ⟨W23.heap.size, 2, none⟩ = some (.string ⟨#[]⟩) := row_at r_h029.out 2
      clear r_h028 c_h028_0 c_h028_1 c_h028_2 o_t128 o_t428
      have f_t229 : Hid (Sh W29 v_t2 t) := Sh.later f_t228.out b29
      clear f_t228
      have D29 : Hid (Below W23.heap.size W23 W29) := D28.out.trans (b29.mono D28.out.size)
      (refine wpAnyH_take (i := 9) (v := ?v9x81) rfl (by kernel_rfl) (by kernel_rfl) (by kernel_rfl) (fun _ _ _ h => h) (Or.inl ⟨by rfl, ?hy9x81⟩) (by assumption) ?rest9x81; case hy9x81 => (intro w hSw; (try dsimp only at hSw); go_split_ands; go_simp; (try with_reducible rfl)))
      try simp only [Act.put, List.setIfInBounds_toArray, List.set_cons_zero, List.set_cons_succ, List.getElem_toArray, List.getElem_cons_zero, List.getElem_cons_succ]
      (refine wpAnyH_take (i := 10) (v := ?v10x82) rfl (by kernel_rfl) (by kernel_rfl) (by kernel_rfl) (fun _ _ _ h => h) (Or.inl ⟨by rfl, ?hy10x82⟩) (by assumption) ?rest10x82; case hy10x82 => (intro w hSw; (try dsimp only at hSw); go_split_ands; go_simp; (try with_reducible rfl)))
      try simp only [Act.put, List.setIfInBounds_toArray, List.set_cons_zero, List.set_cons_succ, List.getElem_toArray, List.getElem_cons_zero, List.getElem_cons_succ]
      (refine wpAnyH_take (i := 11) (v := ?v11x83) rfl (by kernel_rfl) (by kernel_rfl) (by kernel_rfl) (fun _ _ _ h => h) (Or.inl ⟨by rfl, ?hy11x83⟩) (by assumption) ?rest11x83; case hy11x83 => (intro w hSw; (try dsimp only at hSw); go_split_ands; go_simp; (try with_reducible rfl)))
      try simp only [Act.put, List.setIfInBounds_toArray, List.set_cons_zero, List.set_cons_succ, List.getElem_toArray, List.getElem_cons_zero, List.getElem_cons_succ]
      refine wpAnyH_ready (rs := [13]) (by kernel_rfl) (by simp) ?_
      refine AllReadyH.cons rfl (fun K hK => ?_) AllReadyH.nil
      rw [if_pos (by rfl)]
      refine wp_store_row 28 _ _ rfl (W23.heap.size) (lc (.slice ao_hv L_hv cap_hv) H') rfl rfl 28 _ r_h029.out (sizeL _ _) rfl (oneL _ rfl) ?_
      refine hK.out _ _ ⟨(cell_row (by show w.heap.size ≠ W23.heap.size; omega) hHeld.1), (cell_row (by show w.heap.size ≠ W23.heap.size; omega) hHeld.2.1), (cell_row (by show w.heap.size ≠ W23.heap.size; omega) hHeld.2.2.1), (cell_row (by show w.heap.size + 1 ≠ W23.heap.size; omega) hHeld.2.2.2.1), (cell_row (by show w.heap.size + 1 ≠ W23.heap.size; omega) hHeld.2.2.2.2)⟩ (fun hHeld => ?_)
      clear hK K
      try simp only [Act.put, List.setIfInBounds_toArray, List.set_cons_zero, List.set_cons_succ, List.getElem_toArray, List.getElem_cons_zero, List.getElem_cons_succ]
      have D30a : Below W23.heap.size W23 (W29.setRow (W23.heap.size) (lc (.slice ao_hv L_hv cap_hv) H')) := below_setRow D29.out (by omega) _
      obtain ⟨W30, HW30⟩ : ∃ X, Hid (W29.setRow (W23.heap.size) (lc (.slice ao_hv L_hv cap_hv) H') = X) := ⟨_, rfl⟩
      have z30 : W29.heap.size ≤ W30.heap.size := by rw [← HW30.out]; simp
      have B30 : Hid (Below w.heap.size w W30) := by show Below _ _ _; rw [← HW30.out]; exact below_setRow B29.out (by have := B29.out.size; omega) _
      have o_t130 : Hid (Own W30 (W24.heap.size) (W25.heap.size) 9 (.slice ao_t1 L_t1 cap_t1) (ss l)) := by show Own _ _ _ _ _ _; rw [← HW30.out]; exact Own.setRow o_t129.out _ (by omega)
      have o_t430 : Hid (Own W30 (W27.heap.size) (W28.heap.size) 9 (.slice ao_t4 L_t4 cap_t4) (ss x)) := by show Own _ _ _ _ _ _; rw [← HW30.out]; exact Own.setRow o_t429.out _ (by omega)
      have o_hv30 : Hid (Own W30 (W28.heap.size) (W29.heap.size) 9 (.slice ao_hv L_hv cap_hv) (ss R)) := by show Own _ _ _ _ _ _; rw [← HW30.out]; exact Own.setRow o_hv29.out _ (by omega)
      have r_h030 : Hid (W30.heap[W23.heap.size]? = some (.cells #[.slice ao_hv L_hv cap_hv, .int .i64 H'.n, .string H'.r] 28 (0, 0))) := by show _ = _; rw [← HW30.out]; exact setRow_heap _ _ _ _ _ (0, 0) r_h029.out
      rw [HW30.out]
      clear r_h029 c_h029_0 c_h029_1 c_h029_2 o_t129 o_t429 o_hv29
      have c_h030_0 : W30.cell? ⟨W23.heap.size, 0, none⟩ = some (.slice ao_hv L_hv cap_hv) := row_at r_h030.out 0
      have c_h030_1 : W30.cell? ⟨W23.heap.size, 1, none⟩ = some (.int .i64 H'.n) := row_at r_h030.out 1
      have c_h030_2 : W30.cell? ⟨W23.heap.size, 2, none⟩ = some (.string H'.r) := row_at r_h030.out 2
      rw [HW30.out] at hHeld
      have D30 : Hid (Below W23.heap.size W23 W30) := by show Below _ _ _; rw [← HW30.out]; exact D30a
      (refine wpAnyH_take (i := 14) (v := ?v14x84) rfl (by kernel_rfl) (by kernel_rfl) (by kernel_rfl) (fun _ _ _ h => h) (Or.inl ⟨by rfl, ?hy14x84⟩) (by assumption) ?rest14x84; case hy14x84 => (intro w hSw; (try dsimp only at hSw); go_split_ands; go_simp; (try with_reducible rfl)))
      try simp only [Act.put, List.setIfInBounds_toArray, List.set_cons_zero, List.set_cons_succ, List.getElem_toArray, List.getElem_cons_zero, List.getElem_cons_succ]
      refine wpAnyH_done (by kernel_rfl) ?_ _
      clear hHeld
      go_wp2_with fail
      go_meet
      exact ⟨W23.heap.size, rfl, rfl, by omega, (Array.getElem?_eq_some_iff.1 r_h030.out).1, D30.out, W28.heap.size, W29.heap.size, ao_hv, L_hv, cap_hv, by omega, by omega, by omega, r_h030.out, o_hv30.out⟩
  case rest =>
  obtain ⟨g_h0, rfl, rfl, hg_h0, hg2_h0, b24, lo_hv, hi_hv, ao_hv, L_hv, cap_hv, hlo_hv, hhi_hv, hgo_h0, r_h024, o_hv24⟩ := hcut
  skip
  obtain ⟨W24, hWc24⟩ : ∃ W24, wc = W24 := ⟨_, rfl⟩
  revert b24 r_h024 hg2_h0 o_hv24 hhi_hv
  generalize wc = W24
  intro hg2_h0 b24 hhi_hv r_h024 o_hv24
  have r_h024 : Hid (W24.heap[g_h0]? = some (.cells #[.slice ao_hv L_hv cap_hv, .int .i64 H'.n, .string H'.r] 28 (0, 0))) := r_h024
  have o_hv24 : Hid (Own W24 lo_hv hi_hv 9 (.slice ao_hv L_hv cap_hv) (ss R)) := o_hv24
  have z24 : W23.heap.size ≤ W24.heap.size := b24.size
  have B24 : Hid (Below w.heap.size w W24) := B23.out.trans (b24.mono B23.out.size)
  have r_a24 : Hid (W24.heap[w.heap.size]? = some (.cells #[.slice ao0 l.length cap0, .int .i64 hd.n, .string hd.r] 50 (0, 0))) := rowKeep r_a23.out b24
  have r_h24 : Hid (W24.heap[w.heap.size + 1]? = some (.cells #[.int .i64 h.n, .string h.r] 48 (0, 0))) := rowKeep r_h23.out b24
  have r_w024 : Hid (W24.heap[g_w0]? = some (.cells #[.slice ao_wv L_wv cap_wv, .int .i64 H'.n, .string H'.r] 28 (0, 0))) := rowKeep r_w023.out b24
  have r_g024 : Hid (W24.heap[g_g0]? = some (.cells #[.slice ao_gv L_gv cap_gv, .int .i64 H'.n, .string H'.r] 28 (0, 0))) := rowKeep r_g023.out b24
  have o_wv24 : Hid (Own W24 (lo_wv) (hi_wv) 9 (.slice ao_wv L_wv cap_wv) (ss R)) := Own.later o_wv23.out b24 (by omega)
  have o_gv24 : Hid (Own W24 (lo_gv) (hi_gv) 9 (.slice ao_gv L_gv cap_gv) (ss (Strs.mts 1 R.length))) := Own.later o_gv23.out b24 (by omega)
  have c_a24_0 : W24.cell? ⟨w.heap.size, 0, none⟩ = some (.slice ao0 l.length cap0) := row_at r_a24.out 0
  have c_a24_1 : W24.cell? ⟨w.heap.size, 1, none⟩ = some (.int .i64 hd.n) := row_at r_a24.out 1
  have c_a24_2 : W24.cell? ⟨w.heap.size, 2, none⟩ = some (.string hd.r) := row_at r_a24.out 2
  have c_h24_0 : W24.cell? ⟨w.heap.size + 1, 0, none⟩ = some (.int .i64 h.n) := row_at r_h24.out 0
  have c_h24_1 : W24.cell? ⟨w.heap.size + 1, 1, none⟩ = some (.string h.r) := row_at r_h24.out 1
  have c_w024_0 : W24.cell? ⟨g_w0, 0, none⟩ = some (.slice ao_wv L_wv cap_wv) := row_at r_w024.out 0
  have c_w024_1 : W24.cell? ⟨g_w0, 1, none⟩ = some (.int .i64 H'.n) := row_at r_w024.out 1
  have c_w024_2 : W24.cell? ⟨g_w0, 2, none⟩ = some (.string H'.r) := row_at r_w024.out 2
  have c_g024_0 : W24.cell? ⟨g_g0, 0, none⟩ = some (.slice ao_gv L_gv cap_gv) := row_at r_g024.out 0
  have c_g024_1 : W24.cell? ⟨g_g0, 1, none⟩ = some (.int .i64 H'.n) := row_at r_g024.out 1
  have c_g024_2 : W24.cell? ⟨g_g0, 2, none⟩ = some (.string H'.r) := row_at r_g024.out 2
  have c_h024_0 : W24.cell? ⟨g_h0, 0, none⟩ = some (.slice ao_hv L_hv cap_hv) := row_at r_h024.out 0
  have c_h024_1 : W24.cell? ⟨g_h0, 1, none⟩ = some (.int .i64 H'.n) := row_at r_h024.out 1
  have c_h024_2 : W24.cell? ⟨g_h0, 2, none⟩ = some (.string H'.r) := row_at r_h024.out 2
  clear r_a23 c_a23_0 c_a23_1 c_a23_2 r_h23 c_h23_0 c_h23_1 r_w023 c_w023_0 c_w023_1 c_w023_2 r_g023 c_g023_0 c_g023_1 c_g023_2 o_wv23 o_gv23
  go_wp2_with fail
  refine (eq_log W24 H' _ _ R o_hv24.out.sl o_wv24.out.sl (by omega)).mono ?_
  rintro e W25 ⟨rfl, b25⟩
  have z25 : W24.heap.size ≤ W25.heap.size := b25.size
  have B25 : Hid (Below w.heap.size w W25) := B24.out.trans (b25.mono B24.out.size)
  have r_a25 : Hid (W25.heap[w.heap.size]? = some (.cells #[.slice ao0 l.length cap0, .int .i64 hd.n, .string hd.r] 50 (0, 0))) := rowKeep r_a24.out b25
  have r_h25 : Hid (W25.heap[w.heap.size + 1]? = some (.cells #[.int .i64 h.n, .string h.r] 48 (0, 0))) := rowKeep r_h24.out b25
  have r_w025 : Hid (W25.heap[g_w0]? = some (.cells #[.slice ao_wv L_wv cap_wv, .int .i64 H'.n, .string H'.r] 28 (0, 0))) := rowKeep r_w024.out b25
  have r_g025 : Hid (W25.heap[g_g0]? = some (.cells #[.slice ao_gv L_gv cap_gv, .int .i64 H'.n, .string H'.r] 28 (0, 0))) := rowKeep r_g024.out b25
  have r_h025 : Hid (W25.heap[g_h0]? = some (.cells #[.slice ao_hv L_hv cap_hv, .int .i64 H'.n, .string H'.r] 28 (0, 0))) := rowKeep r_h024.out b25
  have o_wv25 : Hid (Own W25 (lo_wv) (hi_wv) 9 (.slice ao_wv L_wv cap_wv) (ss R)) := Own.later o_wv24.out b25 (by omega)
  have o_gv25 : Hid (Own W25 (lo_gv) (hi_gv) 9 (.slice ao_gv L_gv cap_gv) (ss (Strs.mts 1 R.length))) := Own.later o_gv24.out b25 (by omega)
  have o_hv25 : Hid (Own W25 (lo_hv) (hi_hv) 9 (.slice ao_hv L_hv cap_hv) (ss R)) := Own.later o_hv24.out b25 (by omega)
  have c_a25_0 : W25.cell? ⟨w.heap.size, 0, none⟩ = some (.slice ao0 l.length cap0) := row_at r_a25.out 0
  have c_a25_1 : W25.cell? ⟨w.heap.size, 1, none⟩ = some (.int .i64 hd.n) := row_at r_a25.out 1
  have c_a25_2 : W25.cell? ⟨w.heap.size, 2, none⟩ = some (.string hd.r) := row_at r_a25.out 2
  have c_h25_0 : W25.cell? ⟨w.heap.size + 1, 0, none⟩ = some (.int .i64 h.n) := row_at r_h25.out 0
  have c_h25_1 : W25.cell? ⟨w.heap.size + 1, 1, none⟩ = some (.string h.r) := row_at r_h25.out 1
  have c_w025_0 : W25.cell? ⟨g_w0, 0, none⟩ = some (.slice ao_wv L_wv cap_wv) := row_at r_w025.out 0
  have c_w025_1 : W25.cell? ⟨g_w0, 1, none⟩ = some (.int .i64 H'.n) := row_at r_w025.out 1
  have c_w025_2 : W25.cell? ⟨g_w0, 2, none⟩ = some (.string H'.r) := row_at r_w025.out 2
  have c_g025_0 : W25.cell? ⟨g_g0, 0, none⟩ = some (.slice ao_gv L_gv cap_gv) := row_at r_g025.out 0
  have c_g025_1 : W25.cell? ⟨g_g0, 1, none⟩ = some (.int .i64 H'.n) := row_at r_g025.out 1
  have c_g025_2 : W25.cell? ⟨g_g0, 2, none⟩ = some (.string H'.r) := row_at r_g025.out 2
  have c_h025_0 : W25.cell? ⟨g_h0, 0, none⟩ = some (.slice ao_hv L_hv cap_hv) := row_at r_h025.out 0
  have c_h025_1 : W25.cell? ⟨g_h0, 1, none⟩ = some (.int .i64 H'.n) := row_at r_h025.out 1
  have c_h025_2 : W25.cell? ⟨g_h0, 2, none⟩ = some (.string H'.r) := row_at r_h025.out 2
  clear r_a24 c_a24_0 c_a24_1 c_a24_2 r_h24 c_h24_0 c_h24_1 r_w024 c_w024_0 c_w024_1 c_w024_2 r_g024 c_g024_0 c_g024_1 c_g024_2 r_h024 c_h024_0 c_h024_1 c_h024_2 o_wv24 o_gv24 o_hv24
  go_wp2_with fail
  refine (held_log W25 H' _ R.length 1 o_gv25.out.sl (by omega) (by omega) (by omega)).mono ?_
  rintro e W26 ⟨rfl, b26⟩
  have z26 : W25.heap.size ≤ W26.heap.size := b26.size
  have B26 : Hid (Below w.heap.size w W26) := B25.out.trans (b26.mono B25.out.size)
  have r_a26 : Hid (W26.heap[w.heap.size]? = some (.cells #[.slice ao0 l.length cap0, .int .i64 hd.n, .string hd.r] 50 (0, 0))) := rowKeep r_a25.out b26
  have r_h26 : Hid (W26.heap[w.heap.size + 1]? = some (.cells #[.int .i64 h.n, .string h.r] 48 (0, 0))) := rowKeep r_h25.out b26
  have r_w026 : Hid (W26.heap[g_w0]? = some (.cells #[.slice ao_wv L_wv cap_wv, .int .i64 H'.n, .string H'.r] 28 (0, 0))) := rowKeep r_w025.out b26
  have r_g026 : Hid (W26.heap[g_g0]? = some (.cells #[.slice ao_gv L_gv cap_gv, .int .i64 H'.n, .string H'.r] 28 (0, 0))) := rowKeep r_g025.out b26
  have r_h026 : Hid (W26.heap[g_h0]? = some (.cells #[.slice ao_hv L_hv cap_hv, .int .i64 H'.n, .string H'.r] 28 (0, 0))) := rowKeep r_h025.out b26
  have o_wv26 : Hid (Own W26 (lo_wv) (hi_wv) 9 (.slice ao_wv L_wv cap_wv) (ss R)) := Own.later o_wv25.out b26 (by omega)
  have o_gv26 : Hid (Own W26 (lo_gv) (hi_gv) 9 (.slice ao_gv L_gv cap_gv) (ss (Strs.mts 1 R.length))) := Own.later o_gv25.out b26 (by omega)
  have o_hv26 : Hid (Own W26 (lo_hv) (hi_hv) 9 (.slice ao_hv L_hv cap_hv) (ss R)) := Own.later o_hv25.out b26 (by omega)
  have c_a26_0 : W26.cell? ⟨w.heap.size, 0, none⟩ = some (.slice ao0 l.length cap0) := row_at r_a26.out 0
  have c_a26_1 : W26.cell? ⟨w.heap.size, 1, none⟩ = some (.int .i64 hd.n) := row_at r_a26.out 1
  have c_a26_2 : W26.cell? ⟨w.heap.size, 2, none⟩ = some (.string hd.r) := row_at r_a26.out 2
  have c_h26_0 : W26.cell? ⟨w.heap.size + 1, 0, none⟩ = some (.int .i64 h.n) := row_at r_h26.out 0
  have c_h26_1 : W26.cell? ⟨w.heap.size + 1, 1, none⟩ = some (.string h.r) := row_at r_h26.out 1
  have c_w026_0 : W26.cell? ⟨g_w0, 0, none⟩ = some (.slice ao_wv L_wv cap_wv) := row_at r_w026.out 0
  have c_w026_1 : W26.cell? ⟨g_w0, 1, none⟩ = some (.int .i64 H'.n) := row_at r_w026.out 1
  have c_w026_2 : W26.cell? ⟨g_w0, 2, none⟩ = some (.string H'.r) := row_at r_w026.out 2
  have c_g026_0 : W26.cell? ⟨g_g0, 0, none⟩ = some (.slice ao_gv L_gv cap_gv) := row_at r_g026.out 0
  have c_g026_1 : W26.cell? ⟨g_g0, 1, none⟩ = some (.int .i64 H'.n) := row_at r_g026.out 1
  have c_g026_2 : W26.cell? ⟨g_g0, 2, none⟩ = some (.string H'.r) := row_at r_g026.out 2
  have c_h026_0 : W26.cell? ⟨g_h0, 0, none⟩ = some (.slice ao_hv L_hv cap_hv) := row_at r_h026.out 0
  have c_h026_1 : W26.cell? ⟨g_h0, 1, none⟩ = some (.int .i64 H'.n) := row_at r_h026.out 1
  have c_h026_2 : W26.cell? ⟨g_h0, 2, none⟩ = some (.string H'.r) := row_at r_h026.out 2
  clear r_a25 c_a25_0 c_a25_1 c_a25_2 r_h25 c_h25_0 c_h25_1 r_w025 c_w025_0 c_w025_1 c_w025_2 r_g025 c_g025_0 c_g025_1 c_g025_2 r_h025 c_h025_0 c_h025_1 c_h025_2 o_wv25 o_gv25 o_hv25
  go_wp2
  go_ret
  exact ⟨rfl, B26.out⟩

end Go.Proofs.YtccnhhdcdamgmaaDoor.Lg
