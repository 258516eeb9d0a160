/- Texts in one: EntO, VerL, Ent3. -/
import Derived.Test.YtepcpnnnhdbjgahDoorPk11
import Derived.Test.YtepcpnnnhdbjgahDoorPk7
import Derived.Test.YtepcpnnnhdbjgahDoorPk10
import Derived.Test.YtepcpnnnhdbjgahDoorPk8
import Derived.Test.YtepcpnnnhdbjgahDoorPk9
/- Chapter 5: the law FnFits, over contracts of the landed functions. -/
namespace Go.Proofs.YtepcpnnnhdbjgahDoor.Ent
open Go.RowKit Go.Proofs.YtepcpnnnhdbjgahDoor.Mem Go.Proofs.YtepcpnnnhdbjgahDoor.Laws Go.Proofs.YtepcpnnnhdbjgahDoor.Bytes Go.Proofs.YtepcpnnnhdbjgahDoor.Sha Go.Proofs.YtepcpnnnhdbjgahDoor.Ver Go.Proofs.YtepcpnnnhdbjgahDoor.Mod Go.Proofs.YtepcpnnnhdbjgahDoor.Draw
set_option linter.unusedVariables false
set_option linter.unusedSimpArgs false

theorem fits_ok {n : Nd} (h : n.ok = true) : 0 < major4 n.path ∧ major4 n.path ≤ 1000 ∧ okV n.a n.b n.c n.pre = true ∧ (n.a = major4 n.path ∨ (major4 n.path = 1 ∧ n.a = 0)) := by
  unfold Nd.ok fits4 at h
  simp only [Bool.and_eq_true, Bool.or_eq_true, decide_eq_true_eq] at h
  refine ⟨h.1.1, ?_, h.1.2, h.2⟩
  have := maj4_bd n.path
  unfold major4
  split
  · split <;> omega
  · omega
theorem fits_of {s : ByteArray} {a b c : Int} {p : ByteArray} (h0 : 0 < major4 s) (hv : okV a b c p = true) (ha : a = major4 s ∨ (major4 s = 1 ∧ a = 0)) : fits4 s a b c p = true := by
  unfold fits4
  simp only [Bool.and_eq_true, Bool.or_eq_true, decide_eq_true_eq]
  exact ⟨⟨h0, hv⟩, ha⟩
theorem fits_b1 {n : Nd} (h : n.ok = true) : fits4 n.path (bump n.a n.b n.c n.pre 1).1 (bump n.a n.b n.c n.pre 1).2.1 (bump n.a n.b n.c n.pre 1).2.2.1 (bump n.a n.b n.c n.pre 1).2.2.2 = true := by
  obtain ⟨h0, _, hv, ha⟩ := fits_ok h
  unfold bump
  rw [if_pos hv, if_neg (by omega), if_pos rfl]
  by_cases k : okV n.a (n.b + 1) 0 ⟨#[]⟩ = true
  · rw [if_pos k]
    exact fits_of h0 k ha
  · rw [if_neg k]
    exact fits_of h0 hv ha
theorem fits_b2 {n : Nd} (h : n.ok = true) : fits4 n.path (bump n.a n.b n.c n.pre 2).1 (bump n.a n.b n.c n.pre 2).2.1 (bump n.a n.b n.c n.pre 2).2.2.1 (bump n.a n.b n.c n.pre 2).2.2.2 = true := by
  obtain ⟨h0, _, hv, ha⟩ := fits_ok h
  unfold bump
  rw [if_pos hv, if_neg (by omega), if_neg (by omega), if_pos rfl]
  by_cases k : okV n.a n.b (n.c + 1) ⟨#[]⟩ = true
  · rw [if_pos k]
    exact fits_of h0 k ha
  · rw [if_neg k]
    exact fits_of h0 hv ha
theorem fits_b0 {n : Nd} (h : n.ok = true) : fits4 n.path (bump n.a n.b n.c n.pre 0).1 (bump n.a n.b n.c n.pre 0).2.1 (bump n.a n.b n.c n.pre 0).2.2.1 (bump n.a n.b n.c n.pre 0).2.2.2 = (n.a == 0) := by
  obtain ⟨h0, h1000, hv, ha⟩ := fits_ok h
  have hk : okV (n.a + 1) 0 0 ⟨#[]⟩ = true := by
    have h1 : inM (n.a + 1) = true := by unfold inM; simp; omega
    have h2 : inM 0 = true := by decide
    unfold okV
    rw [h1, h2]
    rfl
  unfold bump
  rw [if_pos hv, if_pos rfl, if_pos hk]
  show fits4 n.path (n.a + 1) 0 0 ⟨#[]⟩ = _
  by_cases k : n.a = 0
  · have hd : (n.a == 0) = true := by simpa using k
    rw [hd]
    exact fits_of h0 hk (.inl (by omega))
  · have hd : (n.a == 0) = false := by simpa using k
    rw [hd]
    unfold fits4
    rw [hk]
    have h1 : decide (n.a + 1 = major4 n.path) = false := by simp; omega
    have h2 : decide (n.a + 1 = 0) = false := by simp; omega
    rw [h1, h2]
    simp
theorem bump_pre (a b c : Int) (p : ByteArray) (k : Int) : (bump a b c p k).2.2.2.size ≤ p.size := by
  unfold bump
  repeat' split
  all_goals first | exact Nat.le_refl _ | exact Nat.zero_le _
theorem name5_some {n : Nd} (h : n.ok = true) : (name5 n).toList.isEmpty = false := by
  unfold name5
  rw [if_pos h]
  simp [ByteArray.toList_eq]

set_option maxRecDepth 1000000 in
set_option maxHeartbeats 8000000 in
theorem fits5 (w : World) (v0 : Value) (xs0 : List Int) (h0 : Sl w v0 (bs xs0)) (y0 : Byt xs0) (m0 : xs0.length ≤ maxLen)
    (iN : ∀ W, Below w.heap.size w W → ∀ n : Nd, n.path.size ≤ 1048576 ∧ n.pre.size ≤ 1048576 → Calls Tryd.prog 6 #[.agg #[.string n.path, .int .i64 n.a, .int .i64 n.b, .int .i64 n.c, .string n.pre]] W fun e w' => e = .returned (.bool n.ok) ∧ Below W.heap.size W w')
    (iName : ∀ W, Below w.heap.size w W → ∀ n : Nd, n.path.size ≤ 1048576 ∧ n.pre.size ≤ 1048576 → Calls Tryd.prog 8 #[.string n.path, .agg #[.int .i64 n.a, .int .i64 n.b, .int .i64 n.c, .string n.pre]] W fun e w' => e = .returned (.string (name5 n)) ∧ Below W.heap.size W w')
    (iF : ∀ W, Below w.heap.size w W → ∀ (s : ByteArray) (a b c : Int) (p : ByteArray), s.size ≤ 60 → p.size ≤ 9 → Calls Tryd.prog 9 #[.string s, .agg #[.int .i64 a, .int .i64 b, .int .i64 c, .string p]] W fun e w' => e = .returned (.bool (fits4 s a b c p)) ∧ Below W.heap.size W w')
    (iB : ∀ W, Below w.heap.size w W → ∀ (a b c : Int) (p : ByteArray) (k : Int), p.size ≤ 9 → Calls Tryd.prog 10 #[.agg #[.int .i64 a, .int .i64 b, .int .i64 c, .string p], .int .i64 k] W fun e w' => e = .returned (.agg #[.int .i64 (bump a b c p k).1, .int .i64 (bump a b c p k).2.1, .int .i64 (bump a b c p k).2.2.1, .string (bump a b c p k).2.2.2]) ∧ Below W.heap.size W w') :
    Calls Tryd.prog 3 #[v0] w fun e w' => e = .returned (.bool true) ∧ Below w.heap.size w w' := by
  unfold maxLen at m0
  by_cases hbig : 1048576 < xs0.length
  · obtain ⟨ao, cap, rfl, _, _, _⟩ := h0
    rw [bs_len]
    go_enter Tryd.func3, Tryd.ntmps3
    go_wp2_with (go_at_call 4; refine (big_yes _ _ _ _ hbig).mono ?_; rintro e w1 ⟨rfl, rfl⟩)
    go_ret
    exact ⟨rfl, Below.refl _ _⟩
  have q1 := need_drawn w v0 xs0 h0 y0 (by omega)
  obtain ⟨ao, cap, rfl, _, _, _⟩ := h0
  rw [bs_len] at q1 ⊢
  go_enter Tryd.func3, Tryd.ntmps3
  go_wp2_with fail
  refine (big_no _ _ _ _ hbig).mono ?_
  rintro e w0 ⟨rfl, rfl⟩
  go_wp2_with fail
  refine q1.mono ?_
  rintro e W1 ⟨n, rfl, hz1, hz2, b1⟩
  have HR : Hid ((W1.alloc (.cells #[.string n.path, .int .i64 n.a, .int .i64 n.b, .int .i64 n.c, .string n.pre] 27)).heap[W1.heap.size]? = some (.cells (nc5 n) 27 (0, 0))) := heap_alloc_new W1 _
  have B2 : Below w.heap.size w (W1.alloc (.cells #[.string n.path, .int .i64 n.a, .int .i64 n.b, .int .i64 n.c, .string n.pre] 27)) := b1.alloc b1.size _
  have q2 := iN _ B2 n (by omega)
  have q3 : ∀ W, _ := fun W => need_spec W n (by omega) (by omega)
  have jName : ∀ W, Below w.heap.size w W → _ := fun W h => iName W h n (by omega)
  have HB1 : Hid (n.ok = true → _) := fun h => fits_b1 h
  have HB2 : Hid (n.ok = true → _) := fun h => fits_b2 h
  have HB0 : Hid (n.ok = true → _) := fun h => fits_b0 h
  have HNm : Hid (n.ok = true → _) := fun h => name5_some h
  have HNo : Hid (n.ok = false → name5 n = ⟨#[]⟩) := fun h => by unfold name5; rw [if_neg (by rw [h]; simp)]
  obtain ⟨ok, hok⟩ : ∃ ok, n.ok = ok := ⟨_, rfl⟩
  simp only [hok] at q2 q3 HB1 HB2 HB0 HNm HNo
  clear hok iN iName q1 b1
  go_wp2_with fail
  refine q2.mono ?_
  rintro e W3 ⟨rfl, b3⟩
  have R3 : Hid _ := rowKeep HR.out b3
  have B3 : Below w.heap.size w W3 := B2.trans (b3.mono B2.size)
  obtain ⟨k0, k1, k2, k3, k4⟩ := Nr.cells R3.out
  clear q2 HR B2 b3
  cases ok
  · have hnm := HNo.out rfl
    rw [hnm] at jName
    clear HB1 HB2 HB0 HNm HNo hnm
    go_wp2_with fail
    refine (q3 _).mono ?_
    rintro e W4 ⟨rfl, b4⟩
    have R4 : Hid _ := rowKeep R3.out b4
    have B4 : Below w.heap.size w W4 := B3.trans (b4.mono B3.size)
    clear k0 k1 k2 k3 k4 R3 B3 b4
    obtain ⟨k0, k1, k2, k3, k4⟩ := Nr.cells R4.out
    go_wp2_with fail
    refine (q3 _).mono ?_
    rintro e W5 ⟨rfl, b5⟩
    have R5 : Hid _ := rowKeep R4.out b5
    have B5 : Below w.heap.size w W5 := B4.trans (b5.mono B4.size)
    clear k0 k1 k2 k3 k4 R4 B4 b5 q3
    obtain ⟨k0, k1, k2, k3, k4⟩ := Nr.cells R5.out
    go_wp2_with fail
    refine (jName _ B5).mono ?_
    rintro e W6 ⟨rfl, b6⟩
    have B6 : Below w.heap.size w W6 := B5.trans (b6.mono B5.size)
    clear k0 k1 k2 k3 k4 R5 B5 b6 jName
    go_wp2
    go_ret
    exact ⟨rfl, B6⟩
  · go_wp2_with fail
    refine (q3 _).mono ?_
    rintro e W5 ⟨rfl, b5⟩
    have R5 : Hid _ := rowKeep R3.out b5
    have B5 : Below w.heap.size w W5 := B3.trans (b5.mono B3.size)
    clear k0 k1 k2 k3 k4 R3 B3 b5 q3
    have f1 := HB1.out (by simp)
    have f2 := HB2.out (by simp)
    have f0 := HB0.out (by simp)
    have hnm := HNm.out (by simp)
    have jB1 : ∀ W, Below w.heap.size w W → _ := fun W h => iB W h n.a n.b n.c n.pre 1 hz2
    have jB2 : ∀ W, Below w.heap.size w W → _ := fun W h => iB W h n.a n.b n.c n.pre 2 hz2
    have jB0 : ∀ W, Below w.heap.size w W → _ := fun W h => iB W h n.a n.b n.c n.pre 0 hz2
    have p1 := bump_pre n.a n.b n.c n.pre 1
    have p2 := bump_pre n.a n.b n.c n.pre 2
    have p0 := bump_pre n.a n.b n.c n.pre 0
    obtain ⟨a1, b1, c1, r1, h1⟩ : ∃ a1 b1 c1 r1, bump n.a n.b n.c n.pre 1 = (a1, b1, c1, r1) := ⟨_, _, _, _, rfl⟩
    obtain ⟨a2, b2, c2, r2, h2⟩ : ∃ a1 b1 c1 r1, bump n.a n.b n.c n.pre 2 = (a1, b1, c1, r1) := ⟨_, _, _, _, rfl⟩
    obtain ⟨a0, b0, c0, r0, h0⟩ : ∃ a1 b1 c1 r1, bump n.a n.b n.c n.pre 0 = (a1, b1, c1, r1) := ⟨_, _, _, _, rfl⟩
    simp only [h1] at f1 jB1 p1
    simp only [h2] at f2 jB2 p2
    simp only [h0] at f0 jB0 p0
    have jF1 : ∀ W, Below w.heap.size w W → _ := fun W h => iF W h n.path a1 b1 c1 r1 hz1 (by omega)
    have jF2 : ∀ W, Below w.heap.size w W → _ := fun W h => iF W h n.path a2 b2 c2 r2 hz1 (by omega)
    have jF0 : ∀ W, Below w.heap.size w W → _ := fun W h => iF W h n.path a0 b0 c0 r0 hz1 (by omega)
    rw [f1] at jF1
    rw [f2] at jF2
    rw [f0] at jF0
    obtain ⟨nm, hn5⟩ : ∃ nm, name5 n = nm := ⟨_, rfl⟩
    rw [hn5] at jName hnm
    clear f1 f2 f0 p1 p2 p0 h1 h2 h0 iB iF HB1 HB2 HB0 HNm HNo hn5
    obtain ⟨k0, k1, k2, k3, k4⟩ := Nr.cells R5.out
    obtain ⟨z, hz⟩ : ∃ z, (n.a == 0) = z := ⟨_, rfl⟩
    rw [hz] at jF0
    cases z
    · go_wp2_with fail
      refine wp_region_held_drew (S := fun w' => Below w.heap.size w w' ∧ w'.cell? ⟨W1.heap.size, 0, none⟩ = some (.string n.path) ∧ w'.cell? ⟨W1.heap.size, 1, none⟩ = some (.int .i64 n.a) ∧ w'.cell? ⟨W1.heap.size, 2, none⟩ = some (.int .i64 n.b) ∧ w'.cell? ⟨W1.heap.size, 3, none⟩ = some (.int .i64 n.c) ∧ w'.cell? ⟨W1.heap.size, 4, none⟩ = some (.string n.pre)) (by kernel_rfl) ⟨Below.drew B5, k0, k1, k2, k3, k4⟩ (fun hHeld => ?_)
      (refine wpAnyH_take (i := 0) (v := ?v0x1) rfl (by kernel_rfl) (by kernel_rfl) (by kernel_rfl) (fun _ _ _ h => h) (Or.inl ⟨by rfl, ?hy0x1⟩) (by assumption) ?rest0x1; case hy0x1 => (intro w hSw; (try dsimp only at hSw); go_split_ands; go_simp; (try with_reducible rfl)))
      try simp only [Act.put, List.setIfInBounds_toArray, List.set_cons_zero, List.set_cons_succ, List.getElem_toArray, List.getElem_cons_zero, List.getElem_cons_succ]
      (refine wpAnyH_take (i := 1) (v := ?v1x2) rfl (by kernel_rfl) (by kernel_rfl) (by kernel_rfl) (fun _ _ _ h => h) (Or.inl ⟨by rfl, ?hy1x2⟩) (by assumption) ?rest1x2; case hy1x2 => (intro w hSw; (try dsimp only at hSw); go_split_ands; go_simp; (try with_reducible rfl)))
      try simp only [Act.put, List.setIfInBounds_toArray, List.set_cons_zero, List.set_cons_succ, List.getElem_toArray, List.getElem_cons_zero, List.getElem_cons_succ]
      (refine wpAnyH_take (i := 2) (v := ?v2x3) rfl (by kernel_rfl) (by kernel_rfl) (by kernel_rfl) (fun _ _ _ h => h) (Or.inl ⟨by rfl, ?hy2x3⟩) (by assumption) ?rest2x3; case hy2x3 => (intro w hSw; (try dsimp only at hSw); go_split_ands; go_simp; (try with_reducible rfl)))
      try simp only [Act.put, List.setIfInBounds_toArray, List.set_cons_zero, List.set_cons_succ, List.getElem_toArray, List.getElem_cons_zero, List.getElem_cons_succ]
      (refine wpAnyH_take (i := 3) (v := ?v3x4) rfl (by kernel_rfl) (by kernel_rfl) (by kernel_rfl) (fun _ _ _ h => h) (Or.inl ⟨by rfl, ?hy3x4⟩) (by assumption) ?rest3x4; case hy3x4 => (intro w hSw; (try dsimp only at hSw); go_split_ands; go_simp; (try with_reducible rfl)))
      try simp only [Act.put, List.setIfInBounds_toArray, List.set_cons_zero, List.set_cons_succ, List.getElem_toArray, List.getElem_cons_zero, List.getElem_cons_succ]
      refine wpAnyH_ready (rs := [4]) (by kernel_rfl) (by simp) ?_
      refine AllReadyH.cons rfl (fun K hK => ?_) AllReadyH.nil
      go_simp
      refine (jB1 _ hHeld.1).mono ?_
      rintro e wa4 ⟨rfl, ba4⟩
      refine hK.out _ _ ?_ (fun hHeld => ?_)
      · obtain ⟨s, s0, s1, s2, s3, s4⟩ := hHeld; exact ⟨s.trans (ba4.mono s.size), Ver.keepCell s0 ba4, Ver.keepCell s1 ba4, Ver.keepCell s2 ba4, Ver.keepCell s3 ba4, Ver.keepCell s4 ba4⟩
      clear hK K
      try simp only [Act.put, List.setIfInBounds_toArray, List.set_cons_zero, List.set_cons_succ, List.getElem_toArray, List.getElem_cons_zero, List.getElem_cons_succ]
      refine wpAnyH_ready (rs := [5]) (by kernel_rfl) (by simp) ?_
      refine AllReadyH.cons rfl (fun K hK => ?_) AllReadyH.nil
      go_simp
      refine (jF1 _ hHeld.1).mono ?_
      rintro e wa5 ⟨rfl, ba5⟩
      refine hK.out _ _ ?_ (fun hHeld => ?_)
      · obtain ⟨s, s0, s1, s2, s3, s4⟩ := hHeld; exact ⟨s.trans (ba5.mono s.size), Ver.keepCell s0 ba5, Ver.keepCell s1 ba5, Ver.keepCell s2 ba5, Ver.keepCell s3 ba5, Ver.keepCell s4 ba5⟩
      clear hK K
      try simp only [Act.put, List.setIfInBounds_toArray, List.set_cons_zero, List.set_cons_succ, List.getElem_toArray, List.getElem_cons_zero, List.getElem_cons_succ]
      (refine wpAnyH_take (i := 6) (v := ?v6x5) rfl (by kernel_rfl) (by kernel_rfl) (by kernel_rfl) (fun _ _ _ h => h) (Or.inl ⟨by rfl, ?hy6x5⟩) (by assumption) ?rest6x5; case hy6x5 => (intro w hSw; (try dsimp only at hSw); go_split_ands; go_simp; (try with_reducible rfl)))
      try simp only [Act.put, List.setIfInBounds_toArray, List.set_cons_zero, List.set_cons_succ, List.getElem_toArray, List.getElem_cons_zero, List.getElem_cons_succ]
      (refine wpAnyH_take (i := 7) (v := ?v7x6) rfl (by kernel_rfl) (by kernel_rfl) (by kernel_rfl) (fun _ _ _ h => h) (Or.inl ⟨by rfl, ?hy7x6⟩) (by assumption) ?rest7x6; case hy7x6 => (intro w hSw; (try dsimp only at hSw); go_split_ands; go_simp; (try with_reducible rfl)))
      try simp only [Act.put, List.setIfInBounds_toArray, List.set_cons_zero, List.set_cons_succ, List.getElem_toArray, List.getElem_cons_zero, List.getElem_cons_succ]
      (refine wpAnyH_take (i := 8) (v := ?v8x7) rfl (by kernel_rfl) (by kernel_rfl) (by kernel_rfl) (fun _ _ _ h => h) (Or.inl ⟨by rfl, ?hy8x7⟩) (by assumption) ?rest8x7; case hy8x7 => (intro w hSw; (try dsimp only at hSw); go_split_ands; go_simp; (try with_reducible rfl)))
      try simp only [Act.put, List.setIfInBounds_toArray, List.set_cons_zero, List.set_cons_succ, List.getElem_toArray, List.getElem_cons_zero, List.getElem_cons_succ]
      (refine wpAnyH_take (i := 9) (v := ?v9x8) rfl (by kernel_rfl) (by kernel_rfl) (by kernel_rfl) (fun _ _ _ h => h) (Or.inl ⟨by rfl, ?hy9x8⟩) (by assumption) ?rest9x8; case hy9x8 => (intro w hSw; (try dsimp only at hSw); go_split_ands; go_simp; (try with_reducible rfl)))
      try simp only [Act.put, List.setIfInBounds_toArray, List.set_cons_zero, List.set_cons_succ, List.getElem_toArray, List.getElem_cons_zero, List.getElem_cons_succ]
      (refine wpAnyH_take (i := 10) (v := ?v10x9) rfl (by kernel_rfl) (by kernel_rfl) (by kernel_rfl) (fun _ _ _ h => h) (Or.inl ⟨by rfl, ?hy10x9⟩) (by assumption) ?rest10x9; case hy10x9 => (intro w hSw; (try dsimp only at hSw); go_split_ands; go_simp; (try with_reducible rfl)))
      try simp only [Act.put, List.setIfInBounds_toArray, List.set_cons_zero, List.set_cons_succ, List.getElem_toArray, List.getElem_cons_zero, List.getElem_cons_succ]
      refine wpAnyH_ready (rs := [11]) (by kernel_rfl) (by simp) ?_
      refine AllReadyH.cons rfl (fun K hK => ?_) AllReadyH.nil
      go_simp
      refine (jB2 _ hHeld.1).mono ?_
      rintro e wa11 ⟨rfl, ba11⟩
      refine hK.out _ _ ?_ (fun hHeld => ?_)
      · obtain ⟨s, s0, s1, s2, s3, s4⟩ := hHeld; exact ⟨s.trans (ba11.mono s.size), Ver.keepCell s0 ba11, Ver.keepCell s1 ba11, Ver.keepCell s2 ba11, Ver.keepCell s3 ba11, Ver.keepCell s4 ba11⟩
      clear hK K
      try simp only [Act.put, List.setIfInBounds_toArray, List.set_cons_zero, List.set_cons_succ, List.getElem_toArray, List.getElem_cons_zero, List.getElem_cons_succ]
      refine wpAnyH_ready (rs := [12]) (by kernel_rfl) (by simp) ?_
      refine AllReadyH.cons rfl (fun K hK => ?_) AllReadyH.nil
      go_simp
      refine (jF2 _ hHeld.1).mono ?_
      rintro e wa12 ⟨rfl, ba12⟩
      refine hK.out _ _ ?_ (fun hHeld => ?_)
      · obtain ⟨s, s0, s1, s2, s3, s4⟩ := hHeld; exact ⟨s.trans (ba12.mono s.size), Ver.keepCell s0 ba12, Ver.keepCell s1 ba12, Ver.keepCell s2 ba12, Ver.keepCell s3 ba12, Ver.keepCell s4 ba12⟩
      clear hK K
      try simp only [Act.put, List.setIfInBounds_toArray, List.set_cons_zero, List.set_cons_succ, List.getElem_toArray, List.getElem_cons_zero, List.getElem_cons_succ]
      (refine wpAnyH_take (i := 13) (v := ?v13x10) rfl (by kernel_rfl) (by kernel_rfl) (by kernel_rfl) (fun _ _ _ h => h) (Or.inl ⟨by rfl, ?hy13x10⟩) (by assumption) ?rest13x10; case hy13x10 => (intro w hSw; (try dsimp only at hSw); go_split_ands; go_simp; (try with_reducible rfl)))
      try simp only [Act.put, List.setIfInBounds_toArray, List.set_cons_zero, List.set_cons_succ, List.getElem_toArray, List.getElem_cons_zero, List.getElem_cons_succ]
      (refine wpAnyH_take (i := 14) (v := ?v14x11) rfl (by kernel_rfl) (by kernel_rfl) (by kernel_rfl) (fun _ _ _ h => h) (Or.inl ⟨by rfl, ?hy14x11⟩) (by assumption) ?rest14x11; case hy14x11 => (intro w hSw; (try dsimp only at hSw); go_split_ands; go_simp; (try with_reducible rfl)))
      try simp only [Act.put, List.setIfInBounds_toArray, List.set_cons_zero, List.set_cons_succ, List.getElem_toArray, List.getElem_cons_zero, List.getElem_cons_succ]
      (refine wpAnyH_take (i := 15) (v := ?v15x12) rfl (by kernel_rfl) (by kernel_rfl) (by kernel_rfl) (fun _ _ _ h => h) (Or.inl ⟨by rfl, ?hy15x12⟩) (by assumption) ?rest15x12; case hy15x12 => (intro w hSw; (try dsimp only at hSw); go_split_ands; go_simp; (try with_reducible rfl)))
      try simp only [Act.put, List.setIfInBounds_toArray, List.set_cons_zero, List.set_cons_succ, List.getElem_toArray, List.getElem_cons_zero, List.getElem_cons_succ]
      (refine wpAnyH_take (i := 16) (v := ?v16x13) rfl (by kernel_rfl) (by kernel_rfl) (by kernel_rfl) (fun _ _ _ h => h) (Or.inl ⟨by rfl, ?hy16x13⟩) (by assumption) ?rest16x13; case hy16x13 => (intro w hSw; (try dsimp only at hSw); go_split_ands; go_simp; (try with_reducible rfl)))
      try simp only [Act.put, List.setIfInBounds_toArray, List.set_cons_zero, List.set_cons_succ, List.getElem_toArray, List.getElem_cons_zero, List.getElem_cons_succ]
      (refine wpAnyH_take (i := 17) (v := ?v17x14) rfl (by kernel_rfl) (by kernel_rfl) (by kernel_rfl) (fun _ _ _ h => h) (Or.inl ⟨by rfl, ?hy17x14⟩) (by assumption) ?rest17x14; case hy17x14 => (intro w hSw; (try dsimp only at hSw); go_split_ands; go_simp; (try with_reducible rfl)))
      try simp only [Act.put, List.setIfInBounds_toArray, List.set_cons_zero, List.set_cons_succ, List.getElem_toArray, List.getElem_cons_zero, List.getElem_cons_succ]
      (refine wpAnyH_take (i := 18) (v := ?v18x15) rfl (by kernel_rfl) (by kernel_rfl) (by kernel_rfl) (fun _ _ _ h => h) (Or.inl ⟨by rfl, ?hy18x15⟩) (by assumption) ?rest18x15; case hy18x15 => (intro w hSw; (try dsimp only at hSw); go_split_ands; go_simp; (try with_reducible rfl)))
      try simp only [Act.put, List.setIfInBounds_toArray, List.set_cons_zero, List.set_cons_succ, List.getElem_toArray, List.getElem_cons_zero, List.getElem_cons_succ]
      (refine wpAnyH_take (i := 21) (v := ?v21x16) rfl (by kernel_rfl) (by kernel_rfl) (by kernel_rfl) (fun _ _ _ h => h) (Or.inl ⟨by rfl, ?hy21x16⟩) (by assumption) ?rest21x16; case hy21x16 => (intro w hSw; (try dsimp only at hSw); go_split_ands; go_simp; (try with_reducible rfl)))
      try simp only [Act.put, List.setIfInBounds_toArray, List.set_cons_zero, List.set_cons_succ, List.getElem_toArray, List.getElem_cons_zero, List.getElem_cons_succ]
      (refine wpAnyH_take (i := 22) (v := ?v22x17) rfl (by kernel_rfl) (by kernel_rfl) (by kernel_rfl) (fun _ _ _ h => h) (Or.inl ⟨by rfl, ?hy22x17⟩) (by assumption) ?rest22x17; case hy22x17 => (intro w hSw; (try dsimp only at hSw); go_split_ands; go_simp; (try with_reducible rfl)))
      try simp only [Act.put, List.setIfInBounds_toArray, List.set_cons_zero, List.set_cons_succ, List.getElem_toArray, List.getElem_cons_zero, List.getElem_cons_succ]
      (refine wpAnyH_take (i := 23) (v := ?v23x18) rfl (by kernel_rfl) (by kernel_rfl) (by kernel_rfl) (fun _ _ _ h => h) (Or.inl ⟨by rfl, ?hy23x18⟩) (by assumption) ?rest23x18; case hy23x18 => (intro w hSw; (try dsimp only at hSw); go_split_ands; go_simp; (try with_reducible rfl)))
      try simp only [Act.put, List.setIfInBounds_toArray, List.set_cons_zero, List.set_cons_succ, List.getElem_toArray, List.getElem_cons_zero, List.getElem_cons_succ]
      (refine wpAnyH_take (i := 24) (v := ?v24x19) rfl (by kernel_rfl) (by kernel_rfl) (by kernel_rfl) (fun _ _ _ h => h) (Or.inl ⟨by rfl, ?hy24x19⟩) (by assumption) ?rest24x19; case hy24x19 => (intro w hSw; (try dsimp only at hSw); go_split_ands; go_simp; (try with_reducible rfl)))
      try simp only [Act.put, List.setIfInBounds_toArray, List.set_cons_zero, List.set_cons_succ, List.getElem_toArray, List.getElem_cons_zero, List.getElem_cons_succ]
      refine wpAnyH_ready (rs := [19]) (by kernel_rfl) (by simp) ?_
      refine AllReadyH.cons rfl (fun K hK => ?_) AllReadyH.nil
      go_simp
      refine (jB0 _ hHeld.1).mono ?_
      rintro e wa19 ⟨rfl, ba19⟩
      refine hK.out _ _ ?_ (fun hHeld => ?_)
      · obtain ⟨s, s0, s1, s2, s3, s4⟩ := hHeld; exact ⟨s.trans (ba19.mono s.size), Ver.keepCell s0 ba19, Ver.keepCell s1 ba19, Ver.keepCell s2 ba19, Ver.keepCell s3 ba19, Ver.keepCell s4 ba19⟩
      clear hK K
      try simp only [Act.put, List.setIfInBounds_toArray, List.set_cons_zero, List.set_cons_succ, List.getElem_toArray, List.getElem_cons_zero, List.getElem_cons_succ]
      refine wpAnyH_ready (rs := [20]) (by kernel_rfl) (by simp) ?_
      refine AllReadyH.cons rfl (fun K hK => ?_) AllReadyH.nil
      go_simp
      refine (jF0 _ hHeld.1).mono ?_
      rintro e wa20 ⟨rfl, ba20⟩
      refine hK.out _ _ ?_ (fun hHeld => ?_)
      · obtain ⟨s, s0, s1, s2, s3, s4⟩ := hHeld; exact ⟨s.trans (ba20.mono s.size), Ver.keepCell s0 ba20, Ver.keepCell s1 ba20, Ver.keepCell s2 ba20, Ver.keepCell s3 ba20, Ver.keepCell s4 ba20⟩
      clear hK K
      try simp only [Act.put, List.setIfInBounds_toArray, List.set_cons_zero, List.set_cons_succ, List.getElem_toArray, List.getElem_cons_zero, List.getElem_cons_succ]
      (refine wpAnyH_take (i := 25) (v := ?v25x20) rfl (by kernel_rfl) (by kernel_rfl) (by kernel_rfl) (fun _ _ _ h => h) (Or.inl ⟨by rfl, ?hy25x20⟩) (by assumption) ?rest25x20; case hy25x20 => (intro w hSw; (try dsimp only at hSw); go_split_ands; go_simp; (try with_reducible rfl)))
      try simp only [Act.put, List.setIfInBounds_toArray, List.set_cons_zero, List.set_cons_succ, List.getElem_toArray, List.getElem_cons_zero, List.getElem_cons_succ]
      (refine wpAnyH_take (i := 26) (v := ?v26x21) rfl (by kernel_rfl) (by kernel_rfl) (by kernel_rfl) (fun _ _ _ h => h) (Or.inl ⟨by rfl, ?hy26x21⟩) (by assumption) ?rest26x21; case hy26x21 => (intro w hSw; (try dsimp only at hSw); go_split_ands; go_simp; (try with_reducible rfl)))
      try simp only [Act.put, List.setIfInBounds_toArray, List.set_cons_zero, List.set_cons_succ, List.getElem_toArray, List.getElem_cons_zero, List.getElem_cons_succ]
      (refine wpAnyH_take (i := 27) (v := ?v27x22) rfl (by kernel_rfl) (by kernel_rfl) (by kernel_rfl) (fun _ _ _ h => h) (Or.inl ⟨by rfl, ?hy27x22⟩) (by assumption) ?rest27x22; case hy27x22 => (intro w hSw; (try dsimp only at hSw); go_split_ands; go_simp; (try with_reducible rfl)))
      try simp only [Act.put, List.setIfInBounds_toArray, List.set_cons_zero, List.set_cons_succ, List.getElem_toArray, List.getElem_cons_zero, List.getElem_cons_succ]
      (refine wpAnyH_take (i := 28) (v := ?v28x23) rfl (by kernel_rfl) (by kernel_rfl) (by kernel_rfl) (fun _ _ _ h => h) (Or.inl ⟨by rfl, ?hy28x23⟩) (by assumption) ?rest28x23; case hy28x23 => (intro w hSw; (try dsimp only at hSw); go_split_ands; go_simp; (try with_reducible rfl)))
      try simp only [Act.put, List.setIfInBounds_toArray, List.set_cons_zero, List.set_cons_succ, List.getElem_toArray, List.getElem_cons_zero, List.getElem_cons_succ]
      (refine wpAnyH_take (i := 29) (v := ?v29x24) rfl (by kernel_rfl) (by kernel_rfl) (by kernel_rfl) (fun _ _ _ h => h) (Or.inl ⟨by rfl, ?hy29x24⟩) (by assumption) ?rest29x24; case hy29x24 => (intro w hSw; (try dsimp only at hSw); go_split_ands; go_simp; (try with_reducible rfl)))
      try simp only [Act.put, List.setIfInBounds_toArray, List.set_cons_zero, List.set_cons_succ, List.getElem_toArray, List.getElem_cons_zero, List.getElem_cons_succ]
      (refine wpAnyH_take (i := 30) (v := ?v30x25) rfl (by kernel_rfl) (by kernel_rfl) (by kernel_rfl) (fun _ _ _ h => h) (Or.inl ⟨by rfl, ?hy30x25⟩) (by assumption) ?rest30x25; case hy30x25 => (intro w hSw; (try dsimp only at hSw); go_split_ands; go_simp; (try with_reducible rfl)))
      try simp only [Act.put, List.setIfInBounds_toArray, List.set_cons_zero, List.set_cons_succ, List.getElem_toArray, List.getElem_cons_zero, List.getElem_cons_succ]
      (refine wpAnyH_take (i := 31) (v := ?v31x26) rfl (by kernel_rfl) (by kernel_rfl) (by kernel_rfl) (fun _ _ _ h => h) (Or.inl ⟨by rfl, ?hy31x26⟩) (by assumption) ?rest31x26; case hy31x26 => (intro w hSw; (try dsimp only at hSw); go_split_ands; go_simp; (try with_reducible rfl)))
      try simp only [Act.put, List.setIfInBounds_toArray, List.set_cons_zero, List.set_cons_succ, List.getElem_toArray, List.getElem_cons_zero, List.getElem_cons_succ]
      refine wpAnyH_ready (rs := [32]) (by kernel_rfl) (by simp) ?_
      refine AllReadyH.cons rfl (fun K hK => ?_) AllReadyH.nil
      go_simp
      refine (jName _ hHeld.1).mono ?_
      rintro e wa32 ⟨rfl, ba32⟩
      refine hK.out _ _ ?_ (fun hHeld => ?_)
      · obtain ⟨s, s0, s1, s2, s3, s4⟩ := hHeld; exact ⟨s.trans (ba32.mono s.size), Ver.keepCell s0 ba32, Ver.keepCell s1 ba32, Ver.keepCell s2 ba32, Ver.keepCell s3 ba32, Ver.keepCell s4 ba32⟩
      clear hK K
      try simp only [Act.put, List.setIfInBounds_toArray, List.set_cons_zero, List.set_cons_succ, List.getElem_toArray, List.getElem_cons_zero, List.getElem_cons_succ]
      (refine wpAnyH_take (i := 33) (v := ?v33x27) rfl (by kernel_rfl) (by kernel_rfl) (by kernel_rfl) (fun _ _ _ h => h) (Or.inl ⟨by rfl, ?hy33x27⟩) (by assumption) ?rest33x27; case hy33x27 => (intro w hSw; (try dsimp only at hSw); go_split_ands; go_simp; (try with_reducible rfl)))
      try simp only [Act.put, List.setIfInBounds_toArray, List.set_cons_zero, List.set_cons_succ, List.getElem_toArray, List.getElem_cons_zero, List.getElem_cons_succ]
      (refine wpAnyH_take (i := 34) (v := ?v34x28) rfl (by kernel_rfl) (by kernel_rfl) (by kernel_rfl) (fun _ _ _ h => h) (Or.inl ⟨by rfl, ?hy34x28⟩) (by assumption) ?rest34x28; case hy34x28 => (intro w hSw; (try dsimp only at hSw); go_split_ands; go_simp; (try with_reducible rfl)))
      try simp only [Act.put, List.setIfInBounds_toArray, List.set_cons_zero, List.set_cons_succ, List.getElem_toArray, List.getElem_cons_zero, List.getElem_cons_succ]
      (refine wpAnyH_take (i := 35) (v := ?v35x29) rfl (by kernel_rfl) (by kernel_rfl) (by kernel_rfl) (fun _ _ _ h => h) (Or.inl ⟨by rfl, ?hy35x29⟩) (by assumption) ?rest35x29; case hy35x29 => (intro w hSw; (try dsimp only at hSw); go_split_ands; go_simp; (try with_reducible rfl)))
      try simp only [Act.put, List.setIfInBounds_toArray, List.set_cons_zero, List.set_cons_succ, List.getElem_toArray, List.getElem_cons_zero, List.getElem_cons_succ]
      refine wpAnyH_done (by kernel_rfl) ?_ _
      have BZ : Below w.heap.size w wa32 := hHeld.1
      clear hHeld k0 k1 k2 k3 k4
      go_wp2
      go_ret
      exact ⟨rfl, BZ⟩
    · go_wp2_with fail
      refine wp_region_held_drew (S := fun w' => Below w.heap.size w w' ∧ w'.cell? ⟨W1.heap.size, 0, none⟩ = some (.string n.path) ∧ w'.cell? ⟨W1.heap.size, 1, none⟩ = some (.int .i64 n.a) ∧ w'.cell? ⟨W1.heap.size, 2, none⟩ = some (.int .i64 n.b) ∧ w'.cell? ⟨W1.heap.size, 3, none⟩ = some (.int .i64 n.c) ∧ w'.cell? ⟨W1.heap.size, 4, none⟩ = some (.string n.pre)) (by kernel_rfl) ⟨Below.drew B5, k0, k1, k2, k3, k4⟩ (fun hHeld => ?_)
      (refine wpAnyH_take (i := 0) (v := ?v0x30) rfl (by kernel_rfl) (by kernel_rfl) (by kernel_rfl) (fun _ _ _ h => h) (Or.inl ⟨by rfl, ?hy0x30⟩) (by assumption) ?rest0x30; case hy0x30 => (intro w hSw; (try dsimp only at hSw); go_split_ands; go_simp; (try with_reducible rfl)))
      try simp only [Act.put, List.setIfInBounds_toArray, List.set_cons_zero, List.set_cons_succ, List.getElem_toArray, List.getElem_cons_zero, List.getElem_cons_succ]
      (refine wpAnyH_take (i := 1) (v := ?v1x31) rfl (by kernel_rfl) (by kernel_rfl) (by kernel_rfl) (fun _ _ _ h => h) (Or.inl ⟨by rfl, ?hy1x31⟩) (by assumption) ?rest1x31; case hy1x31 => (intro w hSw; (try dsimp only at hSw); go_split_ands; go_simp; (try with_reducible rfl)))
      try simp only [Act.put, List.setIfInBounds_toArray, List.set_cons_zero, List.set_cons_succ, List.getElem_toArray, List.getElem_cons_zero, List.getElem_cons_succ]
      (refine wpAnyH_take (i := 2) (v := ?v2x32) rfl (by kernel_rfl) (by kernel_rfl) (by kernel_rfl) (fun _ _ _ h => h) (Or.inl ⟨by rfl, ?hy2x32⟩) (by assumption) ?rest2x32; case hy2x32 => (intro w hSw; (try dsimp only at hSw); go_split_ands; go_simp; (try with_reducible rfl)))
      try simp only [Act.put, List.setIfInBounds_toArray, List.set_cons_zero, List.set_cons_succ, List.getElem_toArray, List.getElem_cons_zero, List.getElem_cons_succ]
      (refine wpAnyH_take (i := 3) (v := ?v3x33) rfl (by kernel_rfl) (by kernel_rfl) (by kernel_rfl) (fun _ _ _ h => h) (Or.inl ⟨by rfl, ?hy3x33⟩) (by assumption) ?rest3x33; case hy3x33 => (intro w hSw; (try dsimp only at hSw); go_split_ands; go_simp; (try with_reducible rfl)))
      try simp only [Act.put, List.setIfInBounds_toArray, List.set_cons_zero, List.set_cons_succ, List.getElem_toArray, List.getElem_cons_zero, List.getElem_cons_succ]
      refine wpAnyH_ready (rs := [4]) (by kernel_rfl) (by simp) ?_
      refine AllReadyH.cons rfl (fun K hK => ?_) AllReadyH.nil
      go_simp
      refine (jB1 _ hHeld.1).mono ?_
      rintro e wa4 ⟨rfl, ba4⟩
      refine hK.out _ _ ?_ (fun hHeld => ?_)
      · obtain ⟨s, s0, s1, s2, s3, s4⟩ := hHeld; exact ⟨s.trans (ba4.mono s.size), Ver.keepCell s0 ba4, Ver.keepCell s1 ba4, Ver.keepCell s2 ba4, Ver.keepCell s3 ba4, Ver.keepCell s4 ba4⟩
      clear hK K
      try simp only [Act.put, List.setIfInBounds_toArray, List.set_cons_zero, List.set_cons_succ, List.getElem_toArray, List.getElem_cons_zero, List.getElem_cons_succ]
      refine wpAnyH_ready (rs := [5]) (by kernel_rfl) (by simp) ?_
      refine AllReadyH.cons rfl (fun K hK => ?_) AllReadyH.nil
      go_simp
      refine (jF1 _ hHeld.1).mono ?_
      rintro e wa5 ⟨rfl, ba5⟩
      refine hK.out _ _ ?_ (fun hHeld => ?_)
      · obtain ⟨s, s0, s1, s2, s3, s4⟩ := hHeld; exact ⟨s.trans (ba5.mono s.size), Ver.keepCell s0 ba5, Ver.keepCell s1 ba5, Ver.keepCell s2 ba5, Ver.keepCell s3 ba5, Ver.keepCell s4 ba5⟩
      clear hK K
      try simp only [Act.put, List.setIfInBounds_toArray, List.set_cons_zero, List.set_cons_succ, List.getElem_toArray, List.getElem_cons_zero, List.getElem_cons_succ]
      (refine wpAnyH_take (i := 6) (v := ?v6x34) rfl (by kernel_rfl) (by kernel_rfl) (by kernel_rfl) (fun _ _ _ h => h) (Or.inl ⟨by rfl, ?hy6x34⟩) (by assumption) ?rest6x34; case hy6x34 => (intro w hSw; (try dsimp only at hSw); go_split_ands; go_simp; (try with_reducible rfl)))
      try simp only [Act.put, List.setIfInBounds_toArray, List.set_cons_zero, List.set_cons_succ, List.getElem_toArray, List.getElem_cons_zero, List.getElem_cons_succ]
      (refine wpAnyH_take (i := 7) (v := ?v7x35) rfl (by kernel_rfl) (by kernel_rfl) (by kernel_rfl) (fun _ _ _ h => h) (Or.inl ⟨by rfl, ?hy7x35⟩) (by assumption) ?rest7x35; case hy7x35 => (intro w hSw; (try dsimp only at hSw); go_split_ands; go_simp; (try with_reducible rfl)))
      try simp only [Act.put, List.setIfInBounds_toArray, List.set_cons_zero, List.set_cons_succ, List.getElem_toArray, List.getElem_cons_zero, List.getElem_cons_succ]
      (refine wpAnyH_take (i := 8) (v := ?v8x36) rfl (by kernel_rfl) (by kernel_rfl) (by kernel_rfl) (fun _ _ _ h => h) (Or.inl ⟨by rfl, ?hy8x36⟩) (by assumption) ?rest8x36; case hy8x36 => (intro w hSw; (try dsimp only at hSw); go_split_ands; go_simp; (try with_reducible rfl)))
      try simp only [Act.put, List.setIfInBounds_toArray, List.set_cons_zero, List.set_cons_succ, List.getElem_toArray, List.getElem_cons_zero, List.getElem_cons_succ]
      (refine wpAnyH_take (i := 9) (v := ?v9x37) rfl (by kernel_rfl) (by kernel_rfl) (by kernel_rfl) (fun _ _ _ h => h) (Or.inl ⟨by rfl, ?hy9x37⟩) (by assumption) ?rest9x37; case hy9x37 => (intro w hSw; (try dsimp only at hSw); go_split_ands; go_simp; (try with_reducible rfl)))
      try simp only [Act.put, List.setIfInBounds_toArray, List.set_cons_zero, List.set_cons_succ, List.getElem_toArray, List.getElem_cons_zero, List.getElem_cons_succ]
      (refine wpAnyH_take (i := 10) (v := ?v10x38) rfl (by kernel_rfl) (by kernel_rfl) (by kernel_rfl) (fun _ _ _ h => h) (Or.inl ⟨by rfl, ?hy10x38⟩) (by assumption) ?rest10x38; case hy10x38 => (intro w hSw; (try dsimp only at hSw); go_split_ands; go_simp; (try with_reducible rfl)))
      try simp only [Act.put, List.setIfInBounds_toArray, List.set_cons_zero, List.set_cons_succ, List.getElem_toArray, List.getElem_cons_zero, List.getElem_cons_succ]
      refine wpAnyH_ready (rs := [11]) (by kernel_rfl) (by simp) ?_
      refine AllReadyH.cons rfl (fun K hK => ?_) AllReadyH.nil
      go_simp
      refine (jB2 _ hHeld.1).mono ?_
      rintro e wa11 ⟨rfl, ba11⟩
      refine hK.out _ _ ?_ (fun hHeld => ?_)
      · obtain ⟨s, s0, s1, s2, s3, s4⟩ := hHeld; exact ⟨s.trans (ba11.mono s.size), Ver.keepCell s0 ba11, Ver.keepCell s1 ba11, Ver.keepCell s2 ba11, Ver.keepCell s3 ba11, Ver.keepCell s4 ba11⟩
      clear hK K
      try simp only [Act.put, List.setIfInBounds_toArray, List.set_cons_zero, List.set_cons_succ, List.getElem_toArray, List.getElem_cons_zero, List.getElem_cons_succ]
      refine wpAnyH_ready (rs := [12]) (by kernel_rfl) (by simp) ?_
      refine AllReadyH.cons rfl (fun K hK => ?_) AllReadyH.nil
      go_simp
      refine (jF2 _ hHeld.1).mono ?_
      rintro e wa12 ⟨rfl, ba12⟩
      refine hK.out _ _ ?_ (fun hHeld => ?_)
      · obtain ⟨s, s0, s1, s2, s3, s4⟩ := hHeld; exact ⟨s.trans (ba12.mono s.size), Ver.keepCell s0 ba12, Ver.keepCell s1 ba12, Ver.keepCell s2 ba12, Ver.keepCell s3 ba12, Ver.keepCell s4 ba12⟩
      clear hK K
      try simp only [Act.put, List.setIfInBounds_toArray, List.set_cons_zero, List.set_cons_succ, List.getElem_toArray, List.getElem_cons_zero, List.getElem_cons_succ]
      (refine wpAnyH_take (i := 13) (v := ?v13x39) rfl (by kernel_rfl) (by kernel_rfl) (by kernel_rfl) (fun _ _ _ h => h) (Or.inl ⟨by rfl, ?hy13x39⟩) (by assumption) ?rest13x39; case hy13x39 => (intro w hSw; (try dsimp only at hSw); go_split_ands; go_simp; (try with_reducible rfl)))
      try simp only [Act.put, List.setIfInBounds_toArray, List.set_cons_zero, List.set_cons_succ, List.getElem_toArray, List.getElem_cons_zero, List.getElem_cons_succ]
      (refine wpAnyH_take (i := 14) (v := ?v14x40) rfl (by kernel_rfl) (by kernel_rfl) (by kernel_rfl) (fun _ _ _ h => h) (Or.inl ⟨by rfl, ?hy14x40⟩) (by assumption) ?rest14x40; case hy14x40 => (intro w hSw; (try dsimp only at hSw); go_split_ands; go_simp; (try with_reducible rfl)))
      try simp only [Act.put, List.setIfInBounds_toArray, List.set_cons_zero, List.set_cons_succ, List.getElem_toArray, List.getElem_cons_zero, List.getElem_cons_succ]
      (refine wpAnyH_take (i := 15) (v := ?v15x41) rfl (by kernel_rfl) (by kernel_rfl) (by kernel_rfl) (fun _ _ _ h => h) (Or.inl ⟨by rfl, ?hy15x41⟩) (by assumption) ?rest15x41; case hy15x41 => (intro w hSw; (try dsimp only at hSw); go_split_ands; go_simp; (try with_reducible rfl)))
      try simp only [Act.put, List.setIfInBounds_toArray, List.set_cons_zero, List.set_cons_succ, List.getElem_toArray, List.getElem_cons_zero, List.getElem_cons_succ]
      (refine wpAnyH_take (i := 16) (v := ?v16x42) rfl (by kernel_rfl) (by kernel_rfl) (by kernel_rfl) (fun _ _ _ h => h) (Or.inl ⟨by rfl, ?hy16x42⟩) (by assumption) ?rest16x42; case hy16x42 => (intro w hSw; (try dsimp only at hSw); go_split_ands; go_simp; (try with_reducible rfl)))
      try simp only [Act.put, List.setIfInBounds_toArray, List.set_cons_zero, List.set_cons_succ, List.getElem_toArray, List.getElem_cons_zero, List.getElem_cons_succ]
      (refine wpAnyH_take (i := 17) (v := ?v17x43) rfl (by kernel_rfl) (by kernel_rfl) (by kernel_rfl) (fun _ _ _ h => h) (Or.inl ⟨by rfl, ?hy17x43⟩) (by assumption) ?rest17x43; case hy17x43 => (intro w hSw; (try dsimp only at hSw); go_split_ands; go_simp; (try with_reducible rfl)))
      try simp only [Act.put, List.setIfInBounds_toArray, List.set_cons_zero, List.set_cons_succ, List.getElem_toArray, List.getElem_cons_zero, List.getElem_cons_succ]
      (refine wpAnyH_take (i := 18) (v := ?v18x44) rfl (by kernel_rfl) (by kernel_rfl) (by kernel_rfl) (fun _ _ _ h => h) (Or.inl ⟨by rfl, ?hy18x44⟩) (by assumption) ?rest18x44; case hy18x44 => (intro w hSw; (try dsimp only at hSw); go_split_ands; go_simp; (try with_reducible rfl)))
      try simp only [Act.put, List.setIfInBounds_toArray, List.set_cons_zero, List.set_cons_succ, List.getElem_toArray, List.getElem_cons_zero, List.getElem_cons_succ]
      (refine wpAnyH_take (i := 21) (v := ?v21x45) rfl (by kernel_rfl) (by kernel_rfl) (by kernel_rfl) (fun _ _ _ h => h) (Or.inl ⟨by rfl, ?hy21x45⟩) (by assumption) ?rest21x45; case hy21x45 => (intro w hSw; (try dsimp only at hSw); go_split_ands; go_simp; (try with_reducible rfl)))
      try simp only [Act.put, List.setIfInBounds_toArray, List.set_cons_zero, List.set_cons_succ, List.getElem_toArray, List.getElem_cons_zero, List.getElem_cons_succ]
      (refine wpAnyH_take (i := 22) (v := ?v22x46) rfl (by kernel_rfl) (by kernel_rfl) (by kernel_rfl) (fun _ _ _ h => h) (Or.inl ⟨by rfl, ?hy22x46⟩) (by assumption) ?rest22x46; case hy22x46 => (intro w hSw; (try dsimp only at hSw); go_split_ands; go_simp; (try with_reducible rfl)))
      try simp only [Act.put, List.setIfInBounds_toArray, List.set_cons_zero, List.set_cons_succ, List.getElem_toArray, List.getElem_cons_zero, List.getElem_cons_succ]
      (refine wpAnyH_take (i := 23) (v := ?v23x47) rfl (by kernel_rfl) (by kernel_rfl) (by kernel_rfl) (fun _ _ _ h => h) (Or.inl ⟨by rfl, ?hy23x47⟩) (by assumption) ?rest23x47; case hy23x47 => (intro w hSw; (try dsimp only at hSw); go_split_ands; go_simp; (try with_reducible rfl)))
      try simp only [Act.put, List.setIfInBounds_toArray, List.set_cons_zero, List.set_cons_succ, List.getElem_toArray, List.getElem_cons_zero, List.getElem_cons_succ]
      (refine wpAnyH_take (i := 24) (v := ?v24x48) rfl (by kernel_rfl) (by kernel_rfl) (by kernel_rfl) (fun _ _ _ h => h) (Or.inl ⟨by rfl, ?hy24x48⟩) (by assumption) ?rest24x48; case hy24x48 => (intro w hSw; (try dsimp only at hSw); go_split_ands; go_simp; (try with_reducible rfl)))
      try simp only [Act.put, List.setIfInBounds_toArray, List.set_cons_zero, List.set_cons_succ, List.getElem_toArray, List.getElem_cons_zero, List.getElem_cons_succ]
      refine wpAnyH_ready (rs := [19]) (by kernel_rfl) (by simp) ?_
      refine AllReadyH.cons rfl (fun K hK => ?_) AllReadyH.nil
      go_simp
      refine (jB0 _ hHeld.1).mono ?_
      rintro e wa19 ⟨rfl, ba19⟩
      refine hK.out _ _ ?_ (fun hHeld => ?_)
      · obtain ⟨s, s0, s1, s2, s3, s4⟩ := hHeld; exact ⟨s.trans (ba19.mono s.size), Ver.keepCell s0 ba19, Ver.keepCell s1 ba19, Ver.keepCell s2 ba19, Ver.keepCell s3 ba19, Ver.keepCell s4 ba19⟩
      clear hK K
      try simp only [Act.put, List.setIfInBounds_toArray, List.set_cons_zero, List.set_cons_succ, List.getElem_toArray, List.getElem_cons_zero, List.getElem_cons_succ]
      refine wpAnyH_ready (rs := [20]) (by kernel_rfl) (by simp) ?_
      refine AllReadyH.cons rfl (fun K hK => ?_) AllReadyH.nil
      go_simp
      refine (jF0 _ hHeld.1).mono ?_
      rintro e wa20 ⟨rfl, ba20⟩
      refine hK.out _ _ ?_ (fun hHeld => ?_)
      · obtain ⟨s, s0, s1, s2, s3, s4⟩ := hHeld; exact ⟨s.trans (ba20.mono s.size), Ver.keepCell s0 ba20, Ver.keepCell s1 ba20, Ver.keepCell s2 ba20, Ver.keepCell s3 ba20, Ver.keepCell s4 ba20⟩
      clear hK K
      try simp only [Act.put, List.setIfInBounds_toArray, List.set_cons_zero, List.set_cons_succ, List.getElem_toArray, List.getElem_cons_zero, List.getElem_cons_succ]
      (refine wpAnyH_take (i := 25) (v := ?v25x49) rfl (by kernel_rfl) (by kernel_rfl) (by kernel_rfl) (fun _ _ _ h => h) (Or.inl ⟨by rfl, ?hy25x49⟩) (by assumption) ?rest25x49; case hy25x49 => (intro w hSw; (try dsimp only at hSw); go_split_ands; go_simp; (try with_reducible rfl)))
      try simp only [Act.put, List.setIfInBounds_toArray, List.set_cons_zero, List.set_cons_succ, List.getElem_toArray, List.getElem_cons_zero, List.getElem_cons_succ]
      (refine wpAnyH_take (i := 26) (v := ?v26x50) rfl (by kernel_rfl) (by kernel_rfl) (by kernel_rfl) (fun _ _ _ h => h) (Or.inl ⟨by rfl, ?hy26x50⟩) (by assumption) ?rest26x50; case hy26x50 => (intro w hSw; (try dsimp only at hSw); go_split_ands; go_simp; (try with_reducible rfl)))
      try simp only [Act.put, List.setIfInBounds_toArray, List.set_cons_zero, List.set_cons_succ, List.getElem_toArray, List.getElem_cons_zero, List.getElem_cons_succ]
      (refine wpAnyH_take (i := 27) (v := ?v27x51) rfl (by kernel_rfl) (by kernel_rfl) (by kernel_rfl) (fun _ _ _ h => h) (Or.inl ⟨by rfl, ?hy27x51⟩) (by assumption) ?rest27x51; case hy27x51 => (intro w hSw; (try dsimp only at hSw); go_split_ands; go_simp; (try with_reducible rfl)))
      try simp only [Act.put, List.setIfInBounds_toArray, List.set_cons_zero, List.set_cons_succ, List.getElem_toArray, List.getElem_cons_zero, List.getElem_cons_succ]
      (refine wpAnyH_take (i := 28) (v := ?v28x52) rfl (by kernel_rfl) (by kernel_rfl) (by kernel_rfl) (fun _ _ _ h => h) (Or.inl ⟨by rfl, ?hy28x52⟩) (by assumption) ?rest28x52; case hy28x52 => (intro w hSw; (try dsimp only at hSw); go_split_ands; go_simp; (try with_reducible rfl)))
      try simp only [Act.put, List.setIfInBounds_toArray, List.set_cons_zero, List.set_cons_succ, List.getElem_toArray, List.getElem_cons_zero, List.getElem_cons_succ]
      (refine wpAnyH_take (i := 29) (v := ?v29x53) rfl (by kernel_rfl) (by kernel_rfl) (by kernel_rfl) (fun _ _ _ h => h) (Or.inl ⟨by rfl, ?hy29x53⟩) (by assumption) ?rest29x53; case hy29x53 => (intro w hSw; (try dsimp only at hSw); go_split_ands; go_simp; (try with_reducible rfl)))
      try simp only [Act.put, List.setIfInBounds_toArray, List.set_cons_zero, List.set_cons_succ, List.getElem_toArray, List.getElem_cons_zero, List.getElem_cons_succ]
      (refine wpAnyH_take (i := 30) (v := ?v30x54) rfl (by kernel_rfl) (by kernel_rfl) (by kernel_rfl) (fun _ _ _ h => h) (Or.inl ⟨by rfl, ?hy30x54⟩) (by assumption) ?rest30x54; case hy30x54 => (intro w hSw; (try dsimp only at hSw); go_split_ands; go_simp; (try with_reducible rfl)))
      try simp only [Act.put, List.setIfInBounds_toArray, List.set_cons_zero, List.set_cons_succ, List.getElem_toArray, List.getElem_cons_zero, List.getElem_cons_succ]
      (refine wpAnyH_take (i := 31) (v := ?v31x55) rfl (by kernel_rfl) (by kernel_rfl) (by kernel_rfl) (fun _ _ _ h => h) (Or.inl ⟨by rfl, ?hy31x55⟩) (by assumption) ?rest31x55; case hy31x55 => (intro w hSw; (try dsimp only at hSw); go_split_ands; go_simp; (try with_reducible rfl)))
      try simp only [Act.put, List.setIfInBounds_toArray, List.set_cons_zero, List.set_cons_succ, List.getElem_toArray, List.getElem_cons_zero, List.getElem_cons_succ]
      refine wpAnyH_ready (rs := [32]) (by kernel_rfl) (by simp) ?_
      refine AllReadyH.cons rfl (fun K hK => ?_) AllReadyH.nil
      go_simp
      refine (jName _ hHeld.1).mono ?_
      rintro e wa32 ⟨rfl, ba32⟩
      refine hK.out _ _ ?_ (fun hHeld => ?_)
      · obtain ⟨s, s0, s1, s2, s3, s4⟩ := hHeld; exact ⟨s.trans (ba32.mono s.size), Ver.keepCell s0 ba32, Ver.keepCell s1 ba32, Ver.keepCell s2 ba32, Ver.keepCell s3 ba32, Ver.keepCell s4 ba32⟩
      clear hK K
      try simp only [Act.put, List.setIfInBounds_toArray, List.set_cons_zero, List.set_cons_succ, List.getElem_toArray, List.getElem_cons_zero, List.getElem_cons_succ]
      (refine wpAnyH_take (i := 33) (v := ?v33x56) rfl (by kernel_rfl) (by kernel_rfl) (by kernel_rfl) (fun _ _ _ h => h) (Or.inl ⟨by rfl, ?hy33x56⟩) (by assumption) ?rest33x56; case hy33x56 => (intro w hSw; (try dsimp only at hSw); go_split_ands; go_simp; (try with_reducible rfl)))
      try simp only [Act.put, List.setIfInBounds_toArray, List.set_cons_zero, List.set_cons_succ, List.getElem_toArray, List.getElem_cons_zero, List.getElem_cons_succ]
      (refine wpAnyH_take (i := 34) (v := ?v34x57) rfl (by kernel_rfl) (by kernel_rfl) (by kernel_rfl) (fun _ _ _ h => h) (Or.inl ⟨by rfl, ?hy34x57⟩) (by assumption) ?rest34x57; case hy34x57 => (intro w hSw; (try dsimp only at hSw); go_split_ands; go_simp; (try with_reducible rfl)))
      try simp only [Act.put, List.setIfInBounds_toArray, List.set_cons_zero, List.set_cons_succ, List.getElem_toArray, List.getElem_cons_zero, List.getElem_cons_succ]
      (refine wpAnyH_take (i := 35) (v := ?v35x58) rfl (by kernel_rfl) (by kernel_rfl) (by kernel_rfl) (fun _ _ _ h => h) (Or.inl ⟨by rfl, ?hy35x58⟩) (by assumption) ?rest35x58; case hy35x58 => (intro w hSw; (try dsimp only at hSw); go_split_ands; go_simp; (try with_reducible rfl)))
      try simp only [Act.put, List.setIfInBounds_toArray, List.set_cons_zero, List.set_cons_succ, List.getElem_toArray, List.getElem_cons_zero, List.getElem_cons_succ]
      refine wpAnyH_done (by kernel_rfl) ?_ _
      have BZ : Below w.heap.size w wa32 := hHeld.1
      clear hHeld k0 k1 k2 k3 k4
      go_wp2
      go_ret
      exact ⟨rfl, BZ⟩

end Go.Proofs.YtepcpnnnhdbjgahDoor.Ent

/- The laws' helpers of chapter 3: a version's size, its turning, whether two are the same. -/
namespace Go.Proofs.YtepcpnnnhdbjgahDoor.Ver
open Go.RowKit Go.Proofs.YtepcpnnnhdbjgahDoor.Mem Go.Proofs.YtepcpnnnhdbjgahDoor.Laws Go.Proofs.YtepcpnnnhdbjgahDoor.Bytes Go.Proofs.YtepcpnnnhdbjgahDoor.Sha
set_option linter.unusedVariables false
set_option linter.unusedSimpArgs false

end Go.Proofs.YtepcpnnnhdbjgahDoor.Ver

/- Chapter 5, the laws' helpers: a need's size, its turning, whether two are the same; lists of needs. -/
namespace Go.Proofs.YtepcpnnnhdbjgahDoor.Ent
open Go.RowKit Go.Proofs.YtepcpnnnhdbjgahDoor.Mem Go.Proofs.YtepcpnnnhdbjgahDoor.Laws Go.Proofs.YtepcpnnnhdbjgahDoor.Bytes Go.Proofs.YtepcpnnnhdbjgahDoor.Sha Go.Proofs.YtepcpnnnhdbjgahDoor.Ver Go.Proofs.YtepcpnnnhdbjgahDoor.Mod
set_option linter.unusedVariables false
set_option linter.unusedSimpArgs false

def nc (n : Nd) : Array Value := #[.string n.path, .int .i64 n.a, .int .i64 n.b, .int .i64 n.c, .string n.pre]
theorem sizeN (n : Nd) : (Tryd.prog.info? 27).map (·.size) = some (nc n).size := by
  show _ = some 5
  kernel_rfl
theorem sizeV4 (a b c : Int) (p : ByteArray) : (Tryd.prog.info? 25).map (·.size) = some (vc a b c p).size := by
  show _ = some 4
  kernel_rfl
theorem oneN (n : Nd) : (nc n).all (·.oneCell') = true := by simp [nc, Value.oneCell']
theorem row_cells {w : World} {g : Nat} {cs : Array Value} {t : TypeId} {fr : Nat × Nat} (h : w.heap[g]? = some (.cells cs t fr)) (j : Nat) : w.cell? ⟨g, j, none⟩ = cs[j]? := by simp [World.cell?, h]

theorem infoN : (Tryd.prog.info? 27).map (fun i => (i.zero, i.size, i.bytes)) = some (some (.agg #[.string ⟨#[]⟩, .int .i64 0, .int .i64 0, .int .i64 0, .string ⟨#[]⟩]), 5, 56) := by kernel_rfl

end Go.Proofs.YtepcpnnnhdbjgahDoor.Ent
