/- Chapter 9, the specification's side: tiles, and the root over one. -/
import Derived.Test.YthcmkpdmdkpebaaDoorTi2
import Derived.Test.YthcmkpdmdkpebaaDoorTrX
namespace Go.Proofs.YthcmkpdmdkpebaaDoor.Ti
open Go.RowKit Go.Proofs.YthcmkpdmdkpebaaDoor.Mem Go.Proofs.YthcmkpdmdkpebaaDoor.Laws Go.Proofs.YthcmkpdmdkpebaaDoor.Bytes Go.Proofs.YthcmkpdmdkpebaaDoor.Sha Go.Proofs.YthcmkpdmdkpebaaDoor.Tr
set_option linter.unusedVariables false
set_option linter.unusedSimpArgs false

theorem slMid {w : World} {v : Value} {l : List ByteArray} (h : Sl w v (ss l)) {A S : Nat} (hS : 1 ≤ S) (hA : A + S ≤ l.length) : ∃ b off cap, v = .slice (some ⟨b, off, none⟩) l.length cap ∧ l.length ≤ cap ∧
    Sl w (.slice (some ⟨b, off + A, none⟩) S (cap - A)) (ss ((l.drop A).take S)) := by
  obtain ⟨b, off, cap, rfl, hcap⟩ := slForm h (by rw [ss_len]; omega)
  rw [ss_len] at h hcap ⊢
  refine ⟨b, off, cap, rfl, hcap, ?_⟩
  have h1 := slBack h A (by rw [ss_len]; omega)
  have h2 := h1.front S (by rw [ss_drop, ss_len, List.length_drop]; omega)
  rw [ss_drop, ss_take] at h2
  exact h2
theorem tileOf_yes {l : List ByteArray} {j q : Nat} (h : q + 1 ≤ tileCount (l.length : Int) (j : Int)) : tileOf l (j : Int) (q : Int) = tl l (4 ^ j) 4 (4 * q) := by
  unfold tileOf
  rw [if_pos ⟨by omega, by omega⟩]
  simp
theorem tileOf_no {l : List ByteArray} {level i : Int} (h : ¬ (0 ≤ i ∧ i ≤ (tileCount (l.length : Int) level : Int) - 1)) : tileOf l level i = [] := by unfold tileOf; rw [if_neg h]
theorem tl_no {l : List ByteArray} {s k : Nat} (h : ¬ (k + 1) * s ≤ l.length) (n : Nat) : tl l s n k = [] := by
  cases n with
  | zero => rfl
  | succ n => rw [tl, if_neg h]
theorem tl_yes {l : List ByteArray} {s k : Nat} (h : (k + 1) * s ≤ l.length) (n : Nat) : tl l s (n + 1) k = nd l s k :: tl l s n (k + 1) := by rw [tl, if_pos h]

set_option maxRecDepth 1000000 in
set_option maxHeartbeats 4000000 in
theorem of_spec (w : World) (v : Value) (l : List ByteArray) (level i : Int) (h : Sl w v (ss l)) (hl : l.length ≤ 1000000000000) (hz : ∀ s ∈ l, s.size ≤ 10000000000) :
    Calls Tryd.prog 13 #[v, .int .i64 level, .int .i64 i] w fun e w' => ∃ v', e = .returned v' ∧ Own w' w.heap.size w'.heap.size 9 v' (ss (tileOf l level i)) ∧ Below w.heap.size w w' := by
  obtain ⟨i0, hi, hz0, hz1, hz2⟩ := info_parts info9t
  have HS : Hid (Sl w v (ss l)) := h
  obtain ⟨ao, cap, rfl, hcap, _⟩ := h
  rw [ss_len] at *
  have HO : Hid (Own (w.alloc (.cells #[] 9)) w.heap.size (w.alloc (.cells #[] 9)).heap.size 9 (.slice (some ⟨w.heap.size, 0, none⟩) 0 0) (ss [])) := emptyT w w.heap.size (Nat.le_refl _)
  have HB : Hid (Below w.heap.size w (w.alloc (.cells #[] 9))) := (Below.refl _ _).alloc (Nat.le_refl _) _
  have q0 := count_spec (w.alloc (.cells #[] 9)) (l.length : Int) level
  have hT := tileCount_le (l.length : Int) level
  by_cases hin : 0 ≤ i ∧ i ≤ (tileCount (l.length : Int) level : Int) - 1
  · have hbig : (0 ≤ (l.length : Int) ∧ (l.length : Int) ≤ 200) ∧ 0 ≤ level ∧ level ≤ 3 := by
      refine Classical.byContradiction (fun hc => ?_)
      rw [tileCount_no hc] at hin
      omega
    obtain ⟨j, rfl⟩ : ∃ m : Nat, level = (m : Int) := ⟨level.toNat, by omega⟩
    obtain ⟨q, rfl⟩ : ∃ m : Nat, i = (m : Int) := ⟨i.toNat, by omega⟩
    have hl2 : l.length ≤ 200 := by omega
    have q1 := in6t (w.alloc (.cells #[] 9)) hin
    have q2 := span_spec (w.alloc (.cells #[] 9)) j (by omega)
    have hS := span_le j (by omega)
    have HN : Hid (tileOf l (j : Int) (q : Int) = tl l (4 ^ j) 4 (4 * q)) := tileOf_yes (by omega)
    obtain ⟨S, hSS⟩ : ∃ S, 4 ^ j = S := ⟨_, rfl⟩
    rw [hSS] at q2 hS HN
    obtain ⟨T, hTT⟩ : ∃ T, tileCount (l.length : Int) (j : Int) = T := ⟨_, rfl⟩
    rw [hTT] at q0 hT hin q1
    obtain ⟨hS0, hS1⟩ := hS
    have hq : q ≤ 49 := by omega
    have hwr : IntKind.i64.wrap ((T : Int) - 1) = (T : Int) - 1 := by rw [IntKind.wrap_i64]; omega
    obtain ⟨L, hL⟩ : ∃ L, tileOf l (j : Int) (q : Int) = L := ⟨_, rfl⟩
    rw [hL] at HN ⊢
    clear hSS hTT hbig hin hL
    go_enter Tryd.func13, Tryd.ntmps13
    go_wp2_with fail
    refine q0.mono ?_
    rintro e w0 ⟨rfl, rfl⟩
    go_wp2_with fail
    refine q1.mono ?_
    rintro e w0 ⟨rfl, rfl⟩
    go_wp2_with fail
    refine q2.mono ?_
    rintro e w0 ⟨rfl, rfl⟩
    clear q0 q1 q2
    go_wp2
    go_loopw [7, 9] (fun out k wr => ∃ (kk n : Nat) (R : List ByteArray), k = .int .i64 (kk : Int) ∧ kk + n ≤ 4 * q + 4 ∧ 4 * q + 4 ≤ kk + n ∧ n ≤ 4 ∧ R.length ≤ 4 - n ∧ Hid (R ++ tl l S n kk = L) ∧ Hid (Own wr w.heap.size wr.heap.size 9 out (ss R)) ∧ Hid (Below w.heap.size w wr)) (fun _ k _ => 4 * q + 4 - (intOf k).toNat)
    case atStart => exact ⟨4 * q, 4, [], by go_num, by omega, by omega, by omega, by simp, HN.out.symm, HO, HB⟩
    case round =>
      obtain ⟨k, n, R, rfl, h1, h2, hn, hR, HE, HOr, HBr⟩ := hrel
      have hq4 : IntKind.i64.wrap (4 * (q : Int)) = 4 * (q : Int) := by rw [IntKind.wrap_i64]; omega
      have hsz := HBr.out.size
      cases n with
      | zero =>
        have hlt : ¬ (k : Int) < 4 * (q : Int) + 4 := by omega
        have HF : Hid (R = L) := by have h := HE.out; rw [tl, List.append_nil] at h; exact h
        clear HE HO HB
        go_wp2
        go_ret
        exact ⟨_, rfl, by rw [← HF.out]; exact HOr.out, HBr.out⟩
      | succ n =>
        have hlt : (k : Int) < 4 * (q : Int) + 4 := by omega
        have hk : k ≤ 200 := by omega
        obtain ⟨A, hA⟩ : ∃ A, k * S = A := ⟨_, rfl⟩
        have hC : (k + 1) * S = A + S := by rw [Nat.add_mul, Nat.one_mul, hA]
        have hAb : A ≤ 12800 := by rw [← hA]; exact Nat.mul_le_mul hk hS1
        have e2 : (k : Int) * (S : Int) = (A : Int) := by rw [← hA]; simp
        have e1 : ((k : Int) + 1) * (S : Int) = (A : Int) + (S : Int) := by rw [Int.add_mul, e2]; omega
        have wr2 : IntKind.i64.wrap ((k : Int) * (S : Int)) = (A : Int) := by rw [e2, IntKind.wrap_i64]; omega
        have wr1 : IntKind.i64.wrap (((k : Int) + 1) * (S : Int)) = (A : Int) + (S : Int) := by rw [e1, IntKind.wrap_i64]; omega
        by_cases hw : A + S ≤ l.length
        · have HE2 : Hid ((R ++ [nd l S k]) ++ tl l S n (k + 1) = L) := by
            have h := HE.out
            rw [tl_yes (by rw [hC]; exact hw)] at h
            show _ = _
            rw [List.append_assoc]
            exact h
          have hnd : nd l S k = root ((l.drop A).take S) := by unfold nd; rw [hA]
          obtain ⟨b, off, cap', he, hc', sm⟩ := slMid HS.out hS0 hw
          simp only [Value.slice.injEq] at he
          obtain ⟨rfl, _, rfl⟩ := he
          have qr := root_any S ((l.drop A).take S) (by rw [List.length_take]; omega) wr _ (sm.later HBr.out) (by rw [List.length_take]; omega) (fun s hs => hz s (List.mem_of_mem_drop (List.mem_of_mem_take hs)))
          obtain ⟨x, hx⟩ : ∃ x, root ((l.drop A).take S) = x := ⟨_, rfl⟩
          rw [hx] at qr hnd
          rw [hnd] at HE2
          have g1 : (A : Int) + (S : Int) ≤ (l.length : Int) := by omega
          have g2 : (A : Int) ≤ (A : Int) + (S : Int) := by omega
          have g3 : (A : Int) + (S : Int) ≤ (cap : Int) := by omega
          have g4 : ¬ cap = A := by omega
          have g5 : ((A : Int) + (S : Int)).toNat = A + S := by omega
          have g6 : (0 : Int) ≤ (A : Int) + (S : Int) := by omega
          clear HE hA hC e1 e2 hnd hx sm HO HB
          go_wp2_with fail
          refine qr.mono ?_
          rintro e w1 ⟨rfl, b1⟩
          have B1 : Hid (Below w.heap.size w w1) := HBr.out.trans (b1.mono HBr.out.size)
          have z1 : w.heap.size ≤ w1.heap.size := B1.out.size
          have o1 : ∀ o, Own (w1.alloc o) w.heap.size (w1.alloc o).heap.size 9 _ (ss R) := fun o => Own.alloc ((HOr.out.later b1 (Nat.le_refl _)).mono (Nat.le_refl _) b1.size) o
          have c2 : (ss R).length + 1 ≤ maxLen := by rw [ss_len]; unfold maxLen; omega
          have c3 : ((ss R).length + 1) * 16 ≤ 140737488355328 := by rw [ss_len]; omega
          have c4 : ∀ o, w.heap.size ≤ (w1.alloc o).heap.size := fun o => by simp; omega
          clear qr b1 HOr HBr
          go_wp2_with (at_builtin; go_must (refine wpl_app _ rfl (.tmp 40) (.tmp 51) 24 rfl 9 i0 (.string ⟨#[]⟩) 16 Tryd.underlying24 hi hz0 hz1 hz2 rfl w.heap.size _ (ss R) rfl (o1 _) _ rfl [.string x] (Sl.one _ _ _) (oneT _) c2 c3 (c4 _) ?_); intro v3 w3 ho3 hb3 _)
          have B3 : Hid (Below w.heap.size w w3) := (B1.out.alloc z1 _).trans hb3
          have O3 : Hid (Own w3 w.heap.size w3.heap.size 9 v3 (ss (R ++ [x]))) := by show Own _ _ _ _ _ _; rw [ss_app]; exact ho3
          clear o1 c2 c3 c4 ho3 hb3 B1
          go_roundw
          case rel => exact ⟨k + 1, n, R ++ [x], by go_num, by omega, by omega, by omega, by simp; omega, HE2, O3, B3⟩
          case measure => simp [intOf]; omega
        · have g1 : ¬ (A : Int) + (S : Int) ≤ (l.length : Int) := by omega
          have HF : Hid (R = L) := by
            have h := HE.out
            rw [tl_no (by rw [hC]; exact hw), List.append_nil] at h
            exact h
          clear HE HO HB hA hC e1 e2
          go_wp2
          go_ret
          exact ⟨_, rfl, by rw [← HF.out]; exact HOr.out, HBr.out⟩
  · have q1 := in6f (w.alloc (.cells #[] 9)) hin
    have HN : Hid (tileOf l level i = []) := tileOf_no hin
    obtain ⟨T, hTT⟩ : ∃ T, tileCount (l.length : Int) level = T := ⟨_, rfl⟩
    rw [hTT] at q0 hT q1
    have hwr : IntKind.i64.wrap ((T : Int) - 1) = (T : Int) - 1 := by rw [IntKind.wrap_i64]; omega
    clear hTT hin hz
    go_enter Tryd.func13, Tryd.ntmps13
    go_wp2_with fail
    refine q0.mono ?_
    rintro e w0 ⟨rfl, rfl⟩
    go_wp2_with fail
    refine q1.mono ?_
    rintro e w0 ⟨rfl, rfl⟩
    go_wp2
    go_ret
    exact ⟨_, rfl, by rw [HN.out]; exact HO.out, HB.out⟩

theorem troot_one (a : ByteArray) : troot [a] = a := rfl
theorem troot_more {t : List ByteArray} (h : 2 ≤ t.length) (h4 : t.length ≤ 4) : troot t = nodeH (troot (t.take (half t.length))) (troot (t.drop (half t.length))) := by
  match t, h, h4 with
  | [a, b], _, _ => rfl
  | [a, b, c], _, _ => rfl
  | [a, b, c, d], _, _ => rfl
  | _ :: _ :: _ :: _ :: _ :: _, _, h4 => simp at h4
theorem troot_le {n : Nat} (t : List ByteArray) (h : ∀ s ∈ t, s.size ≤ n) (hn : 32 ≤ n) : (troot t).size ≤ n := by
  unfold troot
  split
  · exact h _ (by simp)
  · rw [nodeH_size]; exact hn
  · rw [nodeH_size]; exact hn
  · rw [nodeH_size]; exact hn
  · exact Nat.zero_le _

set_option maxRecDepth 1000000 in
set_option maxHeartbeats 2000000 in
theorem root9_any : ∀ (N : Nat) (l : List ByteArray), l.length ≤ N → 1 ≤ l.length → l.length ≤ 4 → (∀ s ∈ l, s.size ≤ 10000000000) → ∀ (w : World) (v : Value), Sl w v (ss l) →
    Calls Tryd.prog 37 #[v] w fun e w' => e = .returned (.string (troot l)) ∧ Below w.heap.size w w' := by
  intro N
  induction N with
  | zero => intro l hN h1; omega
  | succ N ih =>
    intro l hN hp hl hz w v h
    by_cases h1 : l.length = 1
    · obtain ⟨s, rfl⟩ := List.length_eq_one_iff.1 h1
      have HN : Hid (troot [s] = s) := rfl
      obtain ⟨ao, cap, rfl, hcap, _, hr⟩ := h
      obtain ⟨b, off, rfl, hcell⟩ := hr (by simp [ss])
      have c0 : w.cell? ⟨b, off, none⟩ = some (.string s) := by have := hcell 0 (by simp [ss]); simpa [ss] using this
      clear ih hz hN h1 hr hcell
      go_enter Tryd.func37, Tryd.ntmps37
      go_wp2
      go_ret
      exact ⟨by rw [HN.out]; rfl, Below.refl _ _⟩
    · have h2 : 2 ≤ l.length := by omega
      have hk := half_ok h2
      have hp := half_pos h2
      have HN : Hid (troot l = nodeH (troot (l.take (half l.length))) (troot (l.drop (half l.length)))) := troot_more h2 hl
      have q0 := half_spec w l.length (by omega)
      have z1 := troot_le (l.take (half l.length)) (fun s hs => hz s (List.mem_of_mem_take hs)) (by omega)
      have z2 := troot_le (l.drop (half l.length)) (fun s hs => hz s (List.mem_of_mem_drop hs)) (by omega)
      obtain ⟨k, hkk⟩ : ∃ k, half l.length = k := ⟨_, rfl⟩
      rw [hkk] at hk hp HN q0 z1 z2
      obtain ⟨_, hk1, hk2⟩ := hk
      clear hkk
      obtain ⟨b, off, cap, rfl, hcap⟩ := slForm h (by rw [ss_len]; omega)
      rw [ss_len] at *
      have s1 : Sl w (.slice (some ⟨b, off, none⟩) k cap) (ss (l.take k)) := by rw [← ss_take]; exact h.front k (by rw [ss_len]; omega)
      have s2 : Sl w (.slice (some ⟨b, off + k, none⟩) (l.length - k) (cap - k)) (ss (l.drop k)) := by rw [← ss_drop]; exact slBack h k (by rw [ss_len]; omega)
      have q1 : ∀ W, Below w.heap.size w W → _ := fun W hW => ih (l.take k) (by rw [List.length_take]; omega) (by rw [List.length_take]; omega) (by rw [List.length_take]; omega) (fun s hs => hz s (List.mem_of_mem_take hs)) W _ (s1.later hW)
      have q2 : ∀ W, Below w.heap.size w W → _ := fun W hW => ih (l.drop k) (by rw [List.length_drop]; omega) (by rw [List.length_drop]; omega) (by rw [List.length_drop]; omega) (fun s hs => hz s (List.mem_of_mem_drop hs)) W _ (s2.later hW)
      obtain ⟨x, hx⟩ : ∃ x, troot (l.take k) = x := ⟨_, rfl⟩
      obtain ⟨y, hy⟩ : ∃ x, troot (l.drop k) = x := ⟨_, rfl⟩
      rw [hx, hy] at HN
      rw [hx] at z1
      rw [hy] at z2
      simp only [hx] at q1
      simp only [hy] at q2
      have q3 : ∀ W, _ := fun W => node_spec W x y (by omega) (by omega)
      have d1 : ((l.length : Int) == 1) = false := by rw [beq_eq_false_iff_ne]; omega
      have v1 : (k : Int) ≤ (l.length : Int) := by omega
      have v2 : (k : Int) ≤ (cap : Int) := by omega
      have v3 : (l.length : Int) ≤ (cap : Int) := by omega
      have vne : ¬ cap = k := by omega
      have hB0 : Below w.heap.size w w := Below.refl _ _
      clear ih h hz hN h1 hx hy s1 s2
      go_enter Tryd.func37, Tryd.ntmps37
      go_wp2_with (go_at_call 49; refine q0.mono ?_; rintro e w1 ⟨rfl, hw1⟩; have hw1 := hw1.symm; subst hw1)
      refine wp_region_held_drew (S := fun _ => True) (by kernel_rfl) trivial (fun hHeld => ?_)
      (refine wpAnyH_take (i := 0) (v := ?v0x1) rfl (by kernel_rfl) (by kernel_rfl) (by kernel_rfl) (fun _ _ _ h => h) (Or.inl ⟨by rfl, ?hy0x1⟩) (by assumption) ?rest0x1; case hy0x1 => (intro w hSw; (try dsimp only at hSw); go_split_ands; go_simp; (try with_reducible rfl)))
      try simp only [Act.put, List.setIfInBounds_toArray, List.set_cons_zero, List.set_cons_succ, List.getElem_toArray, List.getElem_cons_zero, List.getElem_cons_succ]
      (refine wpAnyH_take (i := 1) (v := ?v1x2) rfl (by kernel_rfl) (by kernel_rfl) (by kernel_rfl) (fun _ _ _ h => h) (Or.inl ⟨by rfl, ?hy1x2⟩) (by assumption) ?rest1x2; case hy1x2 => (intro w hSw; (try dsimp only at hSw); go_split_ands; go_simp; (try with_reducible rfl)))
      try simp only [Act.put, List.setIfInBounds_toArray, List.set_cons_zero, List.set_cons_succ, List.getElem_toArray, List.getElem_cons_zero, List.getElem_cons_succ]
      (refine wpAnyH_take (i := 2) (v := ?v2x3) rfl (by kernel_rfl) (by kernel_rfl) (by kernel_rfl) (fun _ _ _ h => h) (Or.inl ⟨by rfl, ?hy2x3⟩) (by assumption) ?rest2x3; case hy2x3 => (intro w hSw; (try dsimp only at hSw); go_split_ands; go_simp; (try with_reducible rfl)))
      try simp only [Act.put, List.setIfInBounds_toArray, List.set_cons_zero, List.set_cons_succ, List.getElem_toArray, List.getElem_cons_zero, List.getElem_cons_succ]
      (refine wpAnyH_take (i := 4) (v := ?v4x4) rfl (by kernel_rfl) (by kernel_rfl) (by kernel_rfl) (fun _ _ _ h => h) (Or.inl ⟨by rfl, ?hy4x4⟩) (by assumption) ?rest4x4; case hy4x4 => (intro w hSw; (try dsimp only at hSw); go_split_ands; go_simp; (try with_reducible rfl)))
      try simp only [Act.put, List.setIfInBounds_toArray, List.set_cons_zero, List.set_cons_succ, List.getElem_toArray, List.getElem_cons_zero, List.getElem_cons_succ]
      (refine wpAnyH_take (i := 5) (v := ?v5x5) rfl (by kernel_rfl) (by kernel_rfl) (by kernel_rfl) (fun _ _ _ h => h) (Or.inl ⟨by rfl, ?hy5x5⟩) (by assumption) ?rest5x5; case hy5x5 => (intro w hSw; (try dsimp only at hSw); go_split_ands; go_simp; (try with_reducible rfl)))
      try simp only [Act.put, List.setIfInBounds_toArray, List.set_cons_zero, List.set_cons_succ, List.getElem_toArray, List.getElem_cons_zero, List.getElem_cons_succ]
      (refine wpAnyH_take (i := 6) (v := ?v6x6) rfl (by kernel_rfl) (by kernel_rfl) (by kernel_rfl) (fun _ _ _ h => h) (Or.inl ⟨by rfl, ?hy6x6⟩) (by assumption) ?rest6x6; case hy6x6 => (intro w hSw; (try dsimp only at hSw); go_split_ands; go_simp; (try with_reducible rfl)))
      try simp only [Act.put, List.setIfInBounds_toArray, List.set_cons_zero, List.set_cons_succ, List.getElem_toArray, List.getElem_cons_zero, List.getElem_cons_succ]
      refine wpAnyH_ready (rs := [3]) (by kernel_rfl) (by simp) ?_
      refine AllReadyH.cons rfl (fun K hK => ?_) AllReadyH.nil
      go_simp
      refine (q1 _ (Below.drew hB0)).mono ?_
      rintro e w2 ⟨rfl, b2⟩
      refine hK.out _ _ trivial (fun hHeld => ?_)
      clear hK K
      try simp only [Act.put, List.setIfInBounds_toArray, List.set_cons_zero, List.set_cons_succ, List.getElem_toArray, List.getElem_cons_zero, List.getElem_cons_succ]
      have B2 : Below w.heap.size w w2 := (Below.drew hB0).trans b2
      refine wpAnyH_ready (rs := [7]) (by kernel_rfl) (by simp) ?_
      refine AllReadyH.cons rfl (fun K hK => ?_) AllReadyH.nil
      go_simp
      refine (q2 _ B2).mono ?_
      rintro e w3 ⟨rfl, b3⟩
      refine hK.out _ _ trivial (fun hHeld => ?_)
      clear hK K
      try simp only [Act.put, List.setIfInBounds_toArray, List.set_cons_zero, List.set_cons_succ, List.getElem_toArray, List.getElem_cons_zero, List.getElem_cons_succ]
      have B3 : Below w.heap.size w w3 := B2.trans (b3.mono B2.size)
      refine wpAnyH_ready (rs := [8]) (by kernel_rfl) (by simp) ?_
      refine AllReadyH.cons rfl (fun K hK => ?_) AllReadyH.nil
      go_simp
      refine (q3 _).mono ?_
      rintro e w4 ⟨rfl, b4⟩
      refine hK.out _ _ trivial (fun hHeld => ?_)
      clear hK K
      try simp only [Act.put, List.setIfInBounds_toArray, List.set_cons_zero, List.set_cons_succ, List.getElem_toArray, List.getElem_cons_zero, List.getElem_cons_succ]
      have B4 : Below w.heap.size w w4 := B3.trans (b4.mono B3.size)
      (refine wpAnyH_take (i := 9) (v := ?v9x7) rfl (by kernel_rfl) (by kernel_rfl) (by kernel_rfl) (fun _ _ _ h => h) (Or.inl ⟨by rfl, ?hy9x7⟩) (by assumption) ?rest9x7; case hy9x7 => (intro w hSw; (try dsimp only at hSw); go_split_ands; go_simp; (try with_reducible rfl)))
      try simp only [Act.put, List.setIfInBounds_toArray, List.set_cons_zero, List.set_cons_succ, List.getElem_toArray, List.getElem_cons_zero, List.getElem_cons_succ]
      refine wpAnyH_done (by kernel_rfl) ?_ _
      clear hHeld
      go_wp2
      go_ret
      exact ⟨by rw [HN.out]; rfl, B4⟩

set_option maxRecDepth 1000000 in
set_option maxHeartbeats 1000000 in
theorem tileRoot_spec (w : World) (v : Value) (l : List ByteArray) (h : Sl w v (ss l)) (hl : l.length ≤ 1000000000000) (hz : ∀ s ∈ l, s.size ≤ 10000000000) :
    Calls Tryd.prog 18 #[v] w fun e w' => e = .returned (.string (tileRoot l)) ∧ Below w.heap.size w w' := by
  by_cases hin : 1 ≤ (l.length : Int) ∧ (l.length : Int) ≤ 4
  · have HN : Hid (tileRoot l = troot l) := by show _ = _; unfold tileRoot; rw [if_pos (by omega)]
    have q0 := in6t w hin
    have q1 := root9_any l.length l (Nat.le_refl _) (by omega) (by omega) hz w v h
    obtain ⟨x, hx⟩ : ∃ x, troot l = x := ⟨_, rfl⟩
    rw [hx] at HN q1
    obtain ⟨ao, cap, rfl, hcap, _⟩ := h
    rw [ss_len] at *
    clear hz hx hin
    go_enter Tryd.func18, Tryd.ntmps18
    go_wp2_with fail
    refine q0.mono ?_
    rintro e w0 ⟨rfl, rfl⟩
    go_wp2_with fail
    refine q1.mono ?_
    rintro e w1 ⟨rfl, b1⟩
    go_wp2
    go_ret
    exact ⟨by rw [HN.out]; rfl, b1⟩
  · have HN : Hid (tileRoot l = ⟨#[]⟩) := by show _ = _; unfold tileRoot; rw [if_neg (by omega)]
    have q0 := in6f w hin
    obtain ⟨ao, cap, rfl, hcap, _⟩ := h
    rw [ss_len] at *
    clear hz hin
    go_enter Tryd.func18, Tryd.ntmps18
    go_wp2_with fail
    refine q0.mono ?_
    rintro e w0 ⟨rfl, rfl⟩
    go_wp2
    go_ret
    exact ⟨by rw [HN.out]; rfl, Below.refl _ _⟩

end Go.Proofs.YthcmkpdmdkpebaaDoor.Ti
