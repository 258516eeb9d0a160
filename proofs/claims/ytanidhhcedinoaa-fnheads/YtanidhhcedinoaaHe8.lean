/- Chapter 10: the law FnHeads, over contracts of the landed functions. -/
import Derived.Test.YtanidhhcedinoaaHe4
import Derived.Test.YtanidhhcedinoaaHe7
import Derived.Test.YtanidhhcedinoaaTrL
namespace Go.Proofs.Ytanidhhcedinoaa.He
open Go.RowKit Go.Proofs.Ytanidhhcedinoaa.Mem Go.Proofs.Ytanidhhcedinoaa.Laws Go.Proofs.Ytanidhhcedinoaa.Bytes Go.Proofs.Ytanidhhcedinoaa.Sha Go.Proofs.Ytanidhhcedinoaa.Tr Go.Proofs.Ytanidhhcedinoaa.Draw
set_option linter.unusedVariables false
set_option linter.unusedSimpArgs false

theorem bestF_ok (r : List Hd) : ∀ b : Hd, bestF b r ∈ b :: r ∧ ∀ x ∈ b :: r, ¬ (bestF b r).n < x.n := by
  induction r with
  | nil => intro b; exact ⟨by simp [bestF], fun x hx => by simp [bestF] at hx ⊢; rw [hx]; omega⟩
  | cons y r ih =>
    intro b
    unfold bestF
    by_cases h : b.n < y.n
    · rw [if_pos h]
      obtain ⟨h1, h2⟩ := ih y
      refine ⟨List.mem_cons_of_mem _ h1, fun x hx => ?_⟩
      rcases List.mem_cons.1 hx with rfl | hx
      · have := h2 y (by simp)
        omega
      · exact h2 x hx
    · rw [if_neg h]
      obtain ⟨h1, h2⟩ := ih b
      refine ⟨?_, fun x hx => ?_⟩
      · rcases List.mem_cons.1 h1 with h1 | h1
        · rw [h1]; simp
        · exact List.mem_cons_of_mem _ (List.mem_cons_of_mem _ h1)
      · rcases List.mem_cons.1 hx with rfl | hx
        · exact h2 x (by simp)
        · rcases List.mem_cons.1 hx with rfl | hx
          · have := h2 b (by simp)
            omega
          · exact h2 x (List.mem_cons_of_mem _ hx)
theorem best_ok {t : List Hd} (h : 1 ≤ t.length) : best t ∈ t ∧ ∀ x ∈ t, ¬ (best t).n < x.n := by
  cases t with
  | nil => simp at h
  | cons b r => exact bestF_ok r b
theorem signed_mem {t : List Hd} {x : Hd} (h : x ∈ t) : signed t x = true := by
  unfold signed
  rw [List.any_eq_true]
  exact ⟨x, h, (eqH_iff x x).2 rfl⟩
theorem forkF_ok (r : List Hd) : ∀ (seen : List Hd) (a b : Hd), forkF seen r = (a, b, true) → a.n = b.n ∧ (a.r.toList == b.r.toList) = false ∧ a ∈ seen ++ r ∧ b ∈ seen ++ r := by
  induction r with
  | nil => intro seen a b h; simp [forkF] at h
  | cons x r ih =>
    intro seen a b h
    unfold forkF at h
    split at h
    · rename_i y hy
      simp only [Prod.mk.injEq, and_true] at h
      obtain ⟨rfl, rfl⟩ := h
      have hm := List.mem_of_find?_eq_some hy
      have hp := List.find?_some hy
      unfold apart eq6 at hp
      simp only [Bool.and_eq_true, decide_eq_true_eq, Bool.not_eq_true'] at hp
      exact ⟨hp.1, hp.2, List.mem_append_left _ hm, by simp⟩
    · obtain ⟨h1, h2, h3, h4⟩ := ih (seen ++ [x]) a b h
      refine ⟨h1, h2, ?_, ?_⟩
      · simpa using h3
      · simpa using h4
theorem fork_ok {t : List Hd} {a b : Hd} (h : fork t = (a, b, true)) : a.n = b.n ∧ (a.r.toList == b.r.toList) = false ∧ a ∈ t ∧ b ∈ t := by
  have := forkF_ok t [] a b h
  simpa using this

set_option maxRecDepth 1000000 in
set_option maxHeartbeats 8000000 in
theorem heads10 (w : World) (v0 : Value) (xs0 : List Int) (h0 : Sl w v0 (bs xs0)) (y0 : Byt xs0) (m0 : xs0.length ≤ maxLen)
    (iBest : ∀ W, Below w.heap.size w W → ∀ (v : Value) (t : List Hd), Sh W v t → t.length ≤ 1000 → (∀ x ∈ t, x.r.size ≤ 1000) → Calls Try.prog 10 #[v] W fun e w' => e = .returned (.agg #[.int .i64 (best t).n, .string (best t).r]) ∧ Below W.heap.size W w')
    (iSig : ∀ W, Below w.heap.size w W → ∀ (v : Value) (t : List Hd) (h : Hd), Sh W v t → t.length ≤ 1000 → (∀ x ∈ t, x.r.size ≤ 1000) → h.r.size ≤ 1000 → Calls Try.prog 11 #[v, .agg #[.int .i64 h.n, .string h.r]] W fun e w' => e = .returned (.bool (signed t h)) ∧ Below W.heap.size W w')
    (iOk : ∀ W, Below w.heap.size w W → ∀ (h : Hd), h.r.size ≤ 1000 → Calls Try.prog 12 #[.agg #[.int .i64 h.n, .string h.r]] W fun e w' => e = .returned (.bool (okH h)) ∧ Below W.heap.size W w')
    (iFork : ∀ W, Below w.heap.size w W → ∀ (v : Value) (t : List Hd), Sh W v t → t.length ≤ 1000 → (∀ x ∈ t, x.r.size ≤ 1000) → Calls Try.prog 14 #[v] W fun e w' => e = .returned (.tuple #[.agg #[.int .i64 (fork t).1.n, .string (fork t).1.r], .agg #[.int .i64 (fork t).2.1.n, .string (fork t).2.1.r], .bool (fork t).2.2]) ∧ Below W.heap.size W w') :
    Calls Try.prog 3 #[v0] w fun e w' => e = .returned (.bool true) ∧ Below w.heap.size w w' := by
  have hs := h0
  have hby := y0
  obtain ⟨ao0, cap0, rfl, -, -, -⟩ := h0
  rw [Mem.bs_len] at hs ⊢
  clear m0 y0
  by_cases hbig : 1048576 < xs0.length
  · have qb := big_yes w ao0 xs0.length cap0 hbig
    clear iBest iSig iOk iFork
    go_enter Try.func3, Try.ntmps3
    go_wp2_with fail
    refine qb.mono ?_
    rintro e w1 ⟨rfl, rfl⟩
    go_wp2
    go_ret
    exact ⟨rfl, Below.refl _ _⟩
  have qb := big_no w ao0 xs0.length cap0 hbig
  have qd := drawFork_any w _ xs0 hs hby (by omega)
  go_enter Try.func3, Try.ntmps3
  go_wp2_with fail
  refine qb.mono ?_
  rintro e w1 ⟨rfl, rfl⟩
  go_wp2_with fail
  refine qd.mono ?_
  rintro e W1 ⟨v1, t, rfl, ht1, ht2, hz, s1, B1⟩
  have hz' : ∀ x ∈ t, x.r.size ≤ 1000 := fun x h => Nat.le_trans (hz x h) (by omega)
  obtain ⟨ta, tc, rfl, htc⟩ := Sh.form s1
  obtain ⟨hbm, hbb⟩ := best_ok ht1
  have q2 := iBest W1 B1 _ t s1 (by omega) hz'
  have qs : ∀ W, Below W1.heap.size W1 W → ∀ x ∈ t, _ := fun W hW x hx => iSig W (B1.trans (hW.mono B1.size)) _ t x (s1.later hW) (by omega) hz' (hz' x hx)
  have qO : ∀ W, Below W1.heap.size W1 W → ∀ x ∈ t, _ := fun W hW x hx => iOk W (B1.trans (hW.mono B1.size)) x (hz' x hx)
  have qF : ∀ W, Below W1.heap.size W1 W → _ := fun W hW => iFork W (B1.trans (hW.mono B1.size)) _ t (s1.later hW) (by omega) hz'
  have qG : ∀ W, Below W1.heap.size W1 W → _ := fun W hW => fork_spec W _ t (s1.later hW) (by omega)
  obtain ⟨M, hM⟩ : ∃ M, best t = M := ⟨_, rfl⟩
  rw [hM] at q2 hbm hbb
  have HS1 : Hid (Sh W1 (.slice ta t.length tc) t) := s1
  have HBB : Hid (∀ x ∈ t, ¬ M.n < x.n) := hbb
  have HQS : Hid (∀ W, Below W1.heap.size W1 W → ∀ x ∈ t, Calls Try.prog 11 #[.slice ta t.length tc, .agg #[.int .i64 x.n, .string x.r]] W fun e w' => e = .returned (.bool true) ∧ Below W.heap.size W w') := fun W hW x hx => by have h := qs W hW x hx; rw [signed_mem hx] at h; exact h
  have HQO : Hid _ := qO
  clear qb qd iBest iSig iOk iFork hs hby s1 hz hz' hM hbb qs qO
  go_wp2_with fail
  refine q2.mono ?_
  rintro e W2 ⟨rfl, x2⟩
  obtain ⟨X, hX, rX, bX⟩ : ∃ X, Hid (W2.alloc (.cells #[.int .i64 M.n, .string M.r] 27) = X) ∧ Hid (X.heap[W2.heap.size]? = some (.cells (hc M) 27 (0, 0))) ∧ Below W1.heap.size W1 X := ⟨_, rfl, heap_alloc_new W2 _, x2.alloc x2.size _⟩
  have q3 := HQS.out X bX M hbm
  clear q2 x2
  go_wp2_with fail
  rw [hX.out]
  refine q3.mono ?_
  rintro e W3 ⟨rfl, x3⟩
  have L3 : Below W1.heap.size W1 W3 := bX.trans (x3.mono bX.size)
  have r3 : Hid (W3.heap[W2.heap.size]? = some (.cells (hc M) 27 (0, 0))) := rowKeep rX.out x3
  clear q3 x3 hX rX
  go_wp2
  go_loopw [5] (fun iv wr => ∃ k : Nat, k ≤ t.length ∧ iv = .int .i64 (k : Int) ∧ Below W3.heap.size W3 wr) (fun iv _ => t.length - (intOf iv).toNat)
  case atStart => exact ⟨0, Nat.zero_le _, rfl, Below.refl _ _⟩
  case round =>
    obtain ⟨k, hk, rfl, hb⟩ := hrel
    by_cases hlt : k < t.length
    · obtain ⟨x, hx0⟩ : ∃ x, t[k]? = some x := ⟨t[k], by simp [hlt]⟩
      have hxm : x ∈ t := List.mem_of_getElem? hx0
      have L4 : Below W1.heap.size W1 wr := L3.trans (hb.mono L3.size)
      obtain ⟨b, off, cap', he, _, c0, c1⟩ := Sh.at (HS1.out.later L4) hx0
      simp only [Value.slice.injEq] at he
      obtain ⟨rfl, -, rfl⟩ := he
      have cM : wr.cell? ⟨W2.heap.size, 0, none⟩ = some (.int .i64 M.n) := row_at (rowKeep r3.out hb) 0
      have hng := HBB.out x hxm
      have dg : decide (M.n < x.n) = false := by rw [decide_eq_false_iff_not]; omega
      have qx : ∀ W, Below W3.heap.size W3 W → _ := fun W hW => HQS.out W (L3.trans (hW.mono L3.size)) x hxm
      have qo1 : ∀ W, Below W3.heap.size W3 W → _ := fun W hW => HQO.out W (L3.trans (hW.mono L3.size)) x hxm
      have qo2 : ∀ W, _ := fun W => ok_spec W x
      obtain ⟨u, hu⟩ : ∃ u, okH x = u := ⟨_, rfl⟩
      simp only [hu] at qo1 qo2
      have noku : (u != u) = false := by simp
      clear hx0 hu HQS HQO qF qG L4
      go_wp2_with fail
      refine wp_region_held_drew (S := fun w' => w'.cell? ⟨b, off + k * 2, none⟩ = some (.int .i64 x.n) ∧ w'.cell? ⟨b, off + k * 2 + 1, none⟩ = some (.string x.r) ∧ w'.cell? ⟨W2.heap.size, 0, none⟩ = some (.int .i64 M.n)) (by kernel_rfl) ⟨c0, c1, cM⟩ (fun hHeld => ?_)
      (refine wpAnyH_take (i := 0) (v := ?v0x1) rfl (by kernel_rfl) (by kernel_rfl) (by kernel_rfl) (fun _ _ _ h => h) (Or.inl ⟨by rfl, ?hy0x1⟩) (by assumption) ?rest0x1; case hy0x1 => (intro w hSw; (try dsimp only at hSw); go_split_ands; go_simp; (try with_reducible rfl)))
      try simp only [Act.put, List.setIfInBounds_toArray, List.set_cons_zero, List.set_cons_succ, List.getElem_toArray, List.getElem_cons_zero, List.getElem_cons_succ]
      (refine wpAnyH_take (i := 1) (v := ?v1x2) rfl (by kernel_rfl) (by kernel_rfl) (by kernel_rfl) (fun _ _ _ h => h) (Or.inl ⟨by rfl, ?hy1x2⟩) (by assumption) ?rest1x2; case hy1x2 => (intro w hSw; (try dsimp only at hSw); go_split_ands; go_simp; (try with_reducible rfl)))
      try simp only [Act.put, List.setIfInBounds_toArray, List.set_cons_zero, List.set_cons_succ, List.getElem_toArray, List.getElem_cons_zero, List.getElem_cons_succ]
      (refine wpAnyH_take (i := 2) (v := ?v2x3) rfl (by kernel_rfl) (by kernel_rfl) (by kernel_rfl) (fun _ _ _ h => h) (Or.inl ⟨by rfl, ?hy2x3⟩) (by assumption) ?rest2x3; case hy2x3 => (intro w hSw; (try dsimp only at hSw); go_split_ands; go_simp; (try with_reducible rfl)))
      try simp only [Act.put, List.setIfInBounds_toArray, List.set_cons_zero, List.set_cons_succ, List.getElem_toArray, List.getElem_cons_zero, List.getElem_cons_succ]
      (refine wpAnyH_take (i := 3) (v := ?v3x4) rfl (by kernel_rfl) (by kernel_rfl) (by kernel_rfl) (fun _ _ _ h => h) (Or.inl ⟨by rfl, ?hy3x4⟩) (by assumption) ?rest3x4; case hy3x4 => (intro w hSw; (try dsimp only at hSw); go_split_ands; go_simp; (try with_reducible rfl)))
      try simp only [Act.put, List.setIfInBounds_toArray, List.set_cons_zero, List.set_cons_succ, List.getElem_toArray, List.getElem_cons_zero, List.getElem_cons_succ]
      (refine wpAnyH_take (i := 4) (v := ?v4x5) rfl (by kernel_rfl) (by kernel_rfl) (by kernel_rfl) (fun _ _ _ h => h) (Or.inl ⟨by rfl, ?hy4x5⟩) (by assumption) ?rest4x5; case hy4x5 => (intro w hSw; (try dsimp only at hSw); go_split_ands; go_simp; (try with_reducible rfl)))
      try simp only [Act.put, List.setIfInBounds_toArray, List.set_cons_zero, List.set_cons_succ, List.getElem_toArray, List.getElem_cons_zero, List.getElem_cons_succ]
      (refine wpAnyH_take (i := 5) (v := ?v5x6) rfl (by kernel_rfl) (by kernel_rfl) (by kernel_rfl) (fun _ _ _ h => h) (Or.inl ⟨by rfl, ?hy5x6⟩) (by assumption) ?rest5x6; case hy5x6 => (intro w hSw; (try dsimp only at hSw); go_split_ands; go_simp; (try with_reducible rfl)))
      try simp only [Act.put, List.setIfInBounds_toArray, List.set_cons_zero, List.set_cons_succ, List.getElem_toArray, List.getElem_cons_zero, List.getElem_cons_succ]
      (refine wpAnyH_take (i := 6) (v := ?v6x7) rfl (by kernel_rfl) (by kernel_rfl) (by kernel_rfl) (fun _ _ _ h => h) (Or.inl ⟨by rfl, ?hy6x7⟩) (by assumption) ?rest6x7; case hy6x7 => (intro w hSw; (try dsimp only at hSw); go_split_ands; go_simp; (try with_reducible rfl)))
      try simp only [Act.put, List.setIfInBounds_toArray, List.set_cons_zero, List.set_cons_succ, List.getElem_toArray, List.getElem_cons_zero, List.getElem_cons_succ]
      (refine wpAnyH_take (i := 7) (v := ?v7x8) rfl (by kernel_rfl) (by kernel_rfl) (by kernel_rfl) (fun _ _ _ h => h) (Or.inl ⟨by rfl, ?hy7x8⟩) (by assumption) ?rest7x8; case hy7x8 => (intro w hSw; (try dsimp only at hSw); go_split_ands; go_simp; (try with_reducible rfl)))
      try simp only [Act.put, List.setIfInBounds_toArray, List.set_cons_zero, List.set_cons_succ, List.getElem_toArray, List.getElem_cons_zero, List.getElem_cons_succ]
      (refine wpAnyH_take (i := 8) (v := ?v8x9) rfl (by kernel_rfl) (by kernel_rfl) (by kernel_rfl) (fun _ _ _ h => h) (Or.inl ⟨by rfl, ?hy8x9⟩) (by assumption) ?rest8x9; case hy8x9 => (intro w hSw; (try dsimp only at hSw); go_split_ands; go_simp; (try with_reducible rfl)))
      try simp only [Act.put, List.setIfInBounds_toArray, List.set_cons_zero, List.set_cons_succ, List.getElem_toArray, List.getElem_cons_zero, List.getElem_cons_succ]
      (refine wpAnyH_take (i := 9) (v := ?v9x10) rfl (by kernel_rfl) (by kernel_rfl) (by kernel_rfl) (fun _ _ _ h => h) (Or.inl ⟨by rfl, ?hy9x10⟩) (by assumption) ?rest9x10; case hy9x10 => (intro w hSw; (try dsimp only at hSw); go_split_ands; go_simp; (try with_reducible rfl)))
      try simp only [Act.put, List.setIfInBounds_toArray, List.set_cons_zero, List.set_cons_succ, List.getElem_toArray, List.getElem_cons_zero, List.getElem_cons_succ]
      (refine wpAnyH_take (i := 10) (v := ?v10x11) rfl (by kernel_rfl) (by kernel_rfl) (by kernel_rfl) (fun _ _ _ h => h) (Or.inl ⟨by rfl, ?hy10x11⟩) (by assumption) ?rest10x11; case hy10x11 => (intro w hSw; (try dsimp only at hSw); go_split_ands; go_simp; (try with_reducible rfl)))
      try simp only [Act.put, List.setIfInBounds_toArray, List.set_cons_zero, List.set_cons_succ, List.getElem_toArray, List.getElem_cons_zero, List.getElem_cons_succ]
      (refine wpAnyH_take (i := 11) (v := ?v11x12) rfl (by kernel_rfl) (by kernel_rfl) (by kernel_rfl) (fun _ _ _ h => h) (Or.inl ⟨by rfl, ?hy11x12⟩) (by assumption) ?rest11x12; case hy11x12 => (intro w hSw; (try dsimp only at hSw); go_split_ands; go_simp; (try with_reducible rfl)))
      try simp only [Act.put, List.setIfInBounds_toArray, List.set_cons_zero, List.set_cons_succ, List.getElem_toArray, List.getElem_cons_zero, List.getElem_cons_succ]
      (refine wpAnyH_take (i := 12) (v := ?v12x13) rfl (by kernel_rfl) (by kernel_rfl) (by kernel_rfl) (fun _ _ _ h => h) (Or.inl ⟨by rfl, ?hy12x13⟩) (by assumption) ?rest12x13; case hy12x13 => (intro w hSw; (try dsimp only at hSw); go_split_ands; go_simp; (try with_reducible rfl)))
      try simp only [Act.put, List.setIfInBounds_toArray, List.set_cons_zero, List.set_cons_succ, List.getElem_toArray, List.getElem_cons_zero, List.getElem_cons_succ]
      (refine wpAnyH_take (i := 13) (v := ?v13x14) rfl (by kernel_rfl) (by kernel_rfl) (by kernel_rfl) (fun _ _ _ h => h) (Or.inl ⟨by rfl, ?hy13x14⟩) (by assumption) ?rest13x14; case hy13x14 => (intro w hSw; (try dsimp only at hSw); go_split_ands; go_simp; (try with_reducible rfl)))
      try simp only [Act.put, List.setIfInBounds_toArray, List.set_cons_zero, List.set_cons_succ, List.getElem_toArray, List.getElem_cons_zero, List.getElem_cons_succ]
      refine wpAnyH_ready (rs := [14]) (by kernel_rfl) (by simp) ?_
      refine AllReadyH.cons rfl (fun K hK => ?_) AllReadyH.nil
      go_simp
      refine (qx _ (Below.drew hb)).mono ?_
      rintro e X1 ⟨rfl, b1⟩
      refine hK.out _ _ ⟨keepH hHeld.1 b1, keepH hHeld.2.1 b1, keepH hHeld.2.2 b1⟩ (fun hHeld => ?_)
      clear hK K
      try simp only [Act.put, List.setIfInBounds_toArray, List.set_cons_zero, List.set_cons_succ, List.getElem_toArray, List.getElem_cons_zero, List.getElem_cons_succ]
      have L1 : Below W3.heap.size W3 X1 := (Below.drew hb).trans (b1.mono (Below.drew hb).size)
      (refine wpAnyH_take (i := 15) (v := ?v15x15) rfl (by kernel_rfl) (by kernel_rfl) (by kernel_rfl) (fun _ _ _ h => h) (Or.inl ⟨by rfl, ?hy15x15⟩) (by assumption) ?rest15x15; case hy15x15 => (intro w hSw; (try dsimp only at hSw); go_split_ands; go_simp; (try with_reducible rfl)))
      try simp only [Act.put, List.setIfInBounds_toArray, List.set_cons_zero, List.set_cons_succ, List.getElem_toArray, List.getElem_cons_zero, List.getElem_cons_succ]
      (refine wpAnyH_take (i := 16) (v := ?v16x16) rfl (by kernel_rfl) (by kernel_rfl) (by kernel_rfl) (fun _ _ _ h => h) (Or.inl ⟨by rfl, ?hy16x16⟩) (by assumption) ?rest16x16; case hy16x16 => (intro w hSw; (try dsimp only at hSw); go_split_ands; go_simp; (try with_reducible rfl)))
      try simp only [Act.put, List.setIfInBounds_toArray, List.set_cons_zero, List.set_cons_succ, List.getElem_toArray, List.getElem_cons_zero, List.getElem_cons_succ]
      (refine wpAnyH_take (i := 17) (v := ?v17x17) rfl (by kernel_rfl) (by kernel_rfl) (by kernel_rfl) (fun _ _ _ h => h) (Or.inl ⟨by rfl, ?hy17x17⟩) (by assumption) ?rest17x17; case hy17x17 => (intro w hSw; (try dsimp only at hSw); go_split_ands; go_simp; (try with_reducible rfl)))
      try simp only [Act.put, List.setIfInBounds_toArray, List.set_cons_zero, List.set_cons_succ, List.getElem_toArray, List.getElem_cons_zero, List.getElem_cons_succ]
      (refine wpAnyH_take (i := 18) (v := ?v18x18) rfl (by kernel_rfl) (by kernel_rfl) (by kernel_rfl) (fun _ _ _ h => h) (Or.inl ⟨by rfl, ?hy18x18⟩) (by assumption) ?rest18x18; case hy18x18 => (intro w hSw; (try dsimp only at hSw); go_split_ands; go_simp; (try with_reducible rfl)))
      try simp only [Act.put, List.setIfInBounds_toArray, List.set_cons_zero, List.set_cons_succ, List.getElem_toArray, List.getElem_cons_zero, List.getElem_cons_succ]
      (refine wpAnyH_take (i := 19) (v := ?v19x19) rfl (by kernel_rfl) (by kernel_rfl) (by kernel_rfl) (fun _ _ _ h => h) (Or.inl ⟨by rfl, ?hy19x19⟩) (by assumption) ?rest19x19; case hy19x19 => (intro w hSw; (try dsimp only at hSw); go_split_ands; go_simp; (try with_reducible rfl)))
      try simp only [Act.put, List.setIfInBounds_toArray, List.set_cons_zero, List.set_cons_succ, List.getElem_toArray, List.getElem_cons_zero, List.getElem_cons_succ]
      (refine wpAnyH_take (i := 20) (v := ?v20x20) rfl (by kernel_rfl) (by kernel_rfl) (by kernel_rfl) (fun _ _ _ h => h) (Or.inl ⟨by rfl, ?hy20x20⟩) (by assumption) ?rest20x20; case hy20x20 => (intro w hSw; (try dsimp only at hSw); go_split_ands; go_simp; (try with_reducible rfl)))
      try simp only [Act.put, List.setIfInBounds_toArray, List.set_cons_zero, List.set_cons_succ, List.getElem_toArray, List.getElem_cons_zero, List.getElem_cons_succ]
      (refine wpAnyH_take (i := 21) (v := ?v21x21) rfl (by kernel_rfl) (by kernel_rfl) (by kernel_rfl) (fun _ _ _ h => h) (Or.inl ⟨by rfl, ?hy21x21⟩) (by assumption) ?rest21x21; case hy21x21 => (intro w hSw; (try dsimp only at hSw); go_split_ands; go_simp; (try with_reducible rfl)))
      try simp only [Act.put, List.setIfInBounds_toArray, List.set_cons_zero, List.set_cons_succ, List.getElem_toArray, List.getElem_cons_zero, List.getElem_cons_succ]
      (refine wpAnyH_take (i := 23) (v := ?v23x22) rfl (by kernel_rfl) (by kernel_rfl) (by kernel_rfl) (fun _ _ _ h => h) (Or.inl ⟨by rfl, ?hy23x22⟩) (by assumption) ?rest23x22; case hy23x22 => (intro w hSw; (try dsimp only at hSw); go_split_ands; go_simp; (try with_reducible rfl)))
      try simp only [Act.put, List.setIfInBounds_toArray, List.set_cons_zero, List.set_cons_succ, List.getElem_toArray, List.getElem_cons_zero, List.getElem_cons_succ]
      (refine wpAnyH_take (i := 24) (v := ?v24x23) rfl (by kernel_rfl) (by kernel_rfl) (by kernel_rfl) (fun _ _ _ h => h) (Or.inl ⟨by rfl, ?hy24x23⟩) (by assumption) ?rest24x23; case hy24x23 => (intro w hSw; (try dsimp only at hSw); go_split_ands; go_simp; (try with_reducible rfl)))
      try simp only [Act.put, List.setIfInBounds_toArray, List.set_cons_zero, List.set_cons_succ, List.getElem_toArray, List.getElem_cons_zero, List.getElem_cons_succ]
      (refine wpAnyH_take (i := 25) (v := ?v25x24) rfl (by kernel_rfl) (by kernel_rfl) (by kernel_rfl) (fun _ _ _ h => h) (Or.inl ⟨by rfl, ?hy25x24⟩) (by assumption) ?rest25x24; case hy25x24 => (intro w hSw; (try dsimp only at hSw); go_split_ands; go_simp; (try with_reducible rfl)))
      try simp only [Act.put, List.setIfInBounds_toArray, List.set_cons_zero, List.set_cons_succ, List.getElem_toArray, List.getElem_cons_zero, List.getElem_cons_succ]
      (refine wpAnyH_take (i := 26) (v := ?v26x25) rfl (by kernel_rfl) (by kernel_rfl) (by kernel_rfl) (fun _ _ _ h => h) (Or.inl ⟨by rfl, ?hy26x25⟩) (by assumption) ?rest26x25; case hy26x25 => (intro w hSw; (try dsimp only at hSw); go_split_ands; go_simp; (try with_reducible rfl)))
      try simp only [Act.put, List.setIfInBounds_toArray, List.set_cons_zero, List.set_cons_succ, List.getElem_toArray, List.getElem_cons_zero, List.getElem_cons_succ]
      refine wpAnyH_ready (rs := [22]) (by kernel_rfl) (by simp) ?_
      refine AllReadyH.cons rfl (fun K hK => ?_) AllReadyH.nil
      go_simp
      refine (qo1 _ L1).mono ?_
      rintro e X2 ⟨rfl, b2⟩
      refine hK.out _ _ ⟨keepH hHeld.1 b2, keepH hHeld.2.1 b2, keepH hHeld.2.2 b2⟩ (fun hHeld => ?_)
      clear hK K
      try simp only [Act.put, List.setIfInBounds_toArray, List.set_cons_zero, List.set_cons_succ, List.getElem_toArray, List.getElem_cons_zero, List.getElem_cons_succ]
      have L2 : Below W3.heap.size W3 X2 := (L1).trans (b2.mono (L1).size)
      refine wpAnyH_ready (rs := [27]) (by kernel_rfl) (by simp) ?_
      refine AllReadyH.cons rfl (fun K hK => ?_) AllReadyH.nil
      go_simp
      refine (qo2 _).mono ?_
      rintro e X3 ⟨rfl, b3⟩
      refine hK.out _ _ ⟨keepH hHeld.1 b3, keepH hHeld.2.1 b3, keepH hHeld.2.2 b3⟩ (fun hHeld => ?_)
      clear hK K
      try simp only [Act.put, List.setIfInBounds_toArray, List.set_cons_zero, List.set_cons_succ, List.getElem_toArray, List.getElem_cons_zero, List.getElem_cons_succ]
      have L3' : Below W3.heap.size W3 X3 := (L2).trans (b3.mono (L2).size)
      (refine wpAnyH_take (i := 28) (v := ?v28x26) rfl (by kernel_rfl) (by kernel_rfl) (by kernel_rfl) (fun _ _ _ h => h) (Or.inl ⟨by rfl, ?hy28x26⟩) (by assumption) ?rest28x26; case hy28x26 => (intro w hSw; (try dsimp only at hSw); go_split_ands; go_simp; (try with_reducible rfl)))
      try simp only [Act.put, List.setIfInBounds_toArray, List.set_cons_zero, List.set_cons_succ, List.getElem_toArray, List.getElem_cons_zero, List.getElem_cons_succ]
      (refine wpAnyH_take (i := 29) (v := ?v29x27) rfl (by kernel_rfl) (by kernel_rfl) (by kernel_rfl) (fun _ _ _ h => h) (Or.inl ⟨by rfl, ?hy29x27⟩) (by assumption) ?rest29x27; case hy29x27 => (intro w hSw; (try dsimp only at hSw); go_split_ands; go_simp; (try with_reducible rfl)))
      try simp only [Act.put, List.setIfInBounds_toArray, List.set_cons_zero, List.set_cons_succ, List.getElem_toArray, List.getElem_cons_zero, List.getElem_cons_succ]
      refine wpAnyH_done (by kernel_rfl) ?_ _
      clear hHeld
      go_wp2
      go_roundw
      case rel => exact ⟨k + 1, by omega, by go_num, L3'⟩
      case measure => simp [intOf]; omega
    · have L4 : Below W1.heap.size W1 wr := L3.trans (hb.mono L3.size)
      obtain ⟨a, b, ok, hf⟩ : ∃ a b ok, fork t = (a, b, ok) := ⟨_, _, _, rfl⟩
      simp only [hf] at qF qG
      have HFK : Hid (fork t = (a, b, ok)) := hf
      have q5 := qF wr L4
      have nok : (ok == ok) = true := by simp
      clear hf
      go_wp2_with fail
      refine q5.mono ?_
      rintro e W5 ⟨rfl, x5⟩
      have L5 : Below W1.heap.size W1 W5 := L4.trans (x5.mono L4.size)
      obtain ⟨Y, hY, ra, rb, bY⟩ : ∃ Y, Hid ((W5.alloc (.cells #[.int .i64 a.n, .string a.r] 27)).alloc (.cells #[.int .i64 b.n, .string b.r] 27) = Y) ∧ Hid (Y.heap[W5.heap.size]? = some (.cells (hc a) 27 (0, 0))) ∧ Hid (Y.heap[W5.heap.size + 1]? = some (.cells (hc b) 27 (0, 0))) ∧ Below W1.heap.size W1 Y := ⟨_, rfl, heap_alloc2_old W5 _ _, heap_alloc2_new W5 _ _, (L5.alloc L5.size _).alloc (by have := L5.size; simp; omega) _⟩
      have q6 := qG Y bY
      clear q5 x5 qF qG
      go_wp2_with fail
      rw [hY.out]
      refine q6.mono ?_
      rintro e W6 ⟨rfl, x6⟩
      have L6 : Below W1.heap.size W1 W6 := bY.trans (x6.mono bY.size)
      have ra6 := rowKeep ra.out x6
      have rb6 := rowKeep rb.out x6
      obtain ⟨V, hV, bV6⟩ : ∃ V, Hid ((W6.alloc (.cells #[.int .i64 a.n, .string a.r] 27)).alloc (.cells #[.int .i64 b.n, .string b.r] 27) = V) ∧ Below W6.heap.size W6 V := ⟨_, rfl, ((Below.refl _ _).alloc (Nat.le_refl _) _).alloc (by simp) _⟩
      have LV : Below W1.heap.size W1 V := L6.trans (bV6.mono L6.size)
      have al : ∀ (j : Nat) (p : Nat) (c : Value), W6.cell? ⟨p, j, none⟩ = some c → ∀ o o2, ((W6.alloc o).alloc o2).cell? ⟨p, j, none⟩ = some c := fun j p c hc o o2 => keepH (keepH hc ((Below.refl _ _).alloc (Nat.le_refl _) o)) ((Below.refl _ _).alloc (Nat.le_refl _) o2)
      have ca0 := al 0 W5.heap.size _ (row_at ra6 0)
      have ca1 := al 1 W5.heap.size _ (row_at ra6 1)
      have cb0 := al 0 (W5.heap.size + 1) _ (row_at rb6 0)
      have cb1 := al 1 (W5.heap.size + 1) _ (row_at rb6 1)
      simp only [hc, List.getElem?_toArray, List.getElem?_cons_zero, List.getElem?_cons_succ] at ca0 ca1 cb0 cb1
      have HRB : Hid (V.heap[W5.heap.size + 1]? = some (.cells (hc b) 27 (0, 0))) := rowKeep rb6 bV6
      clear q6 x6 hY ra rb al ra6 rb6
      cases ok
      · have BV : Below w.heap.size w V := B1.trans (LV.mono B1.size)
        go_wp2
        go_ret
        rw [hV.out]
        exact ⟨rfl, BV⟩
      · obtain ⟨f1, f2, f3, f4⟩ := fork_ok HFK.out
        have d1 : (a.n == b.n) = true := by rw [beq_iff_eq]; exact f1
        have d2 : (a.r.toList != b.r.toList) = true := by rw [bne, f2]; rfl
        have q7 := HQS.out V LV a f3
        have q8 : ∀ W, Below W1.heap.size W1 W → _ := fun W hW => HQS.out W hW b f4
        clear f1 HQS HQO f3 f4
        go_wp2_with fail
        rw [hV.out]
        refine q7.mono ?_
        rintro e W7 ⟨rfl, x7⟩
        have L7 : Below W1.heap.size W1 W7 := LV.trans (x7.mono LV.size)
        have rb7 := rowKeep HRB.out x7
        have cb0 : W7.cell? ⟨W5.heap.size + 1, 0, none⟩ = some (.int .i64 b.n) := row_at rb7 0
        have cb1 : W7.cell? ⟨W5.heap.size + 1, 1, none⟩ = some (.string b.r) := row_at rb7 1
        have q8 := q8 W7 L7
        clear q7 x7 rb7
        go_wp2_with fail
        refine q8.mono ?_
        rintro e W8 ⟨rfl, x8⟩
        have B8 : Below w.heap.size w W8 := B1.trans ((L7.trans (x8.mono L7.size)).mono B1.size)
        go_wp2
        go_ret
        exact ⟨rfl, B8⟩

end Go.Proofs.Ytanidhhcedinoaa.He
