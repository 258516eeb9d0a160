/- Chapter 6: the laws FnRoots, FnPaths, FnGrown, over contracts of the landed functions. -/
import Derived.Test.YthbonifpdpknnaaDoorTrD
import Derived.Test.YthbonifpdpknnaaDoorTr8
namespace Go.Proofs.YthbonifpdpknnaaDoor.Tr
open Go.RowKit Go.Proofs.YthbonifpdpknnaaDoor.Mem Go.Proofs.YthbonifpdpknnaaDoor.Laws Go.Proofs.YthbonifpdpknnaaDoor.Bytes Go.Proofs.YthbonifpdpknnaaDoor.Sha Go.Proofs.YthbonifpdpknnaaDoor.Draw
set_option linter.unusedVariables false
set_option linter.unusedSimpArgs false

theorem rootOf_small {l : List ByteArray} (h : l.length ≤ 200) : rootOf l = root l := by unfold rootOf; rw [if_pos h]
theorem eq6_same (a : ByteArray) : eq6 a a = true := by unfold eq6; simp
theorem keepC {W W' : World} {p : Addr} {x : Value} (h : W.cell? p = some x) (b : Below W.heap.size W W') : W'.cell? p = some x := by
  rw [b.cell (World.block_lt_of_cell? W p h)]; exact h
/-- where a text of a slice lies -/
theorem slAt {w : World} {b off n cap : Nat} {l : List ByteArray} (h : Sl w (.slice (some ⟨b, off, none⟩) n cap) (ss l)) {i : Nat} {s : ByteArray} (hi : l[i]? = some s) : w.cell? ⟨b, off + i, none⟩ = some (.string s) := by
  have hil : i < l.length := (List.getElem?_eq_some_iff.1 hi).1
  obtain ⟨ao', c', he, _, _, hr⟩ := h
  simp only [Value.slice.injEq] at he
  obtain ⟨rfl, _, rfl⟩ := he
  obtain ⟨b', off', he', hcell⟩ := hr (by rw [ss_len]; omega)
  simp only [Option.some.injEq, Addr.mk.injEq] at he'
  obtain ⟨rfl, rfl, _⟩ := he'
  rw [hcell i (by rw [ss_len]; omega)]
  simp [ss, hi]

set_option maxRecDepth 1000000 in
set_option maxHeartbeats 4000000 in
theorem roots6 (w : World) (v0 : Value) (xs0 : List Int) (h0 : Sl w v0 (bs xs0)) (y0 : Byt xs0) (m0 : xs0.length ≤ maxLen)
    (iRoot : ∀ W, Below w.heap.size w W → ∀ (v' : Value) (l : List ByteArray), Sl W v' (ss l) → l.length ≤ 1000 → (∀ s ∈ l, s.size ≤ 1000) → Calls Tryd.prog 12 #[v'] W fun e w' => e = .returned (.string (rootOf l)) ∧ Below W.heap.size W w')
    (iLeaf : ∀ W, Below w.heap.size w W → ∀ s : ByteArray, s.size ≤ 1000 → Calls Tryd.prog 16 #[.string s] W fun e w' => e = .returned (.string (leafH s)) ∧ Below W.heap.size W w')
    (iNode : ∀ W, Below w.heap.size w W → ∀ a b : ByteArray, a.size ≤ 1000 → b.size ≤ 1000 → Calls Tryd.prog 17 #[.string a, .string b] W fun e w' => e = .returned (.string (nodeH a b)) ∧ Below W.heap.size W w') :
    Calls Tryd.prog 5 #[v0] w fun e w' => e = .returned (.bool true) ∧ Below w.heap.size w w' := by
  have hs := h0
  have hby := y0
  obtain ⟨ao0, cap0, rfl, -, -, -⟩ := h0
  rw [Mem.bs_len] at hs ⊢
  clear m0 y0
  by_cases hbig : 1048576 < xs0.length
  · have qb := big_yes w ao0 xs0.length cap0 hbig
    clear iRoot iLeaf iNode
    go_enter Tryd.func5, Tryd.ntmps5
    go_wp2_with fail
    refine qb.mono ?_
    rintro e w1 ⟨rfl, rfl⟩
    go_wp2
    go_ret
    exact ⟨rfl, Below.refl _ _⟩
  have qb := big_no w ao0 xs0.length cap0 hbig
  have qd := leaves_any w _ xs0 hs hby (by omega)
  clear hbig hs hby
  go_enter Tryd.func5, Tryd.ntmps5
  go_wp2_with fail
  refine qb.mono ?_
  rintro e w1 ⟨rfl, rfl⟩
  go_wp2_with fail
  refine qd.mono ?_
  rintro e w1 ⟨v1, l, i, rfl, hl1, hl9, hil, hz, o1, B1⟩
  clear qb qd
  obtain ⟨b, off, cap, rfl, hcap⟩ := slForm o1.sl (by rw [ss_len]; omega)
  rw [ss_len] at *
  have s1 := o1.sl
  have HZ : Hid (∀ s ∈ l, s.size ≤ 1000) := fun s hs => by have := hz s hs; omega
  have qR : ∀ W, Below w1.heap.size w1 W → _ := fun W hW => iRoot W (B1.trans (hW.mono B1.size)) _ l (s1.later hW) (by omega) HZ.out
  have hrz := root_size l
  rw [rootOf_small (by omega)] at qR
  have HR1 : Hid (l.length = 1 → ∀ s, l[0]? = some s → root l = leafH s) := by
    intro h s hs
    obtain ⟨t, rfl⟩ := List.length_eq_one_iff.1 h
    simp at hs
    subst hs
    exact root_one t
  have HR2 : Hid (2 ≤ l.length → root l = nodeH (root (l.take (half l.length))) (root (l.drop (half l.length)))) := fun h => root_more h
  obtain ⟨r, hr⟩ : ∃ r, root l = r := ⟨_, rfl⟩
  simp only [hr] at qR hrz HR1 HR2
  have HRr : Hid (root l = r) := hr
  clear hr hz o1
  go_wp2_with fail
  refine (qR _ (Below.refl _ _)).mono ?_
  rintro e w2 ⟨rfl, b2⟩
  have B2 : Below w.heap.size w w2 := B1.trans (b2.mono B1.size)
  have d32 : ((r.size : Int) != 32) = false := by rw [hrz]; rfl
  by_cases hone : l.length = 1
  · obtain ⟨s, hs0⟩ : ∃ s, l[0]? = some s := ⟨l[0], by simp⟩
    have he := HR1.out hone s hs0
    have hsz := HZ.out s (List.mem_of_getElem? hs0)
    have c0 : w2.cell? ⟨b, off, none⟩ = some (.string s) := by have := slAt (s1.later b2) hs0; simpa using this
    have qL : ∀ W, Below w.heap.size w W → _ := fun W hW => iLeaf W hW s hsz
    rw [← he] at qL
    have d1 : ((l.length : Int) == 1) = true := by rw [hone]; rfl
    have v1 : 0 < l.length := by omega
    have deq : (r.toList == r.toList) = true := by simp
    clear HR1 HR2 hs0 he hone
    go_wp2_with fail
    refine wp_region_held_drew (S := fun w' => w'.cell? ⟨b, off, none⟩ = some (.string s)) (by kernel_rfl) c0 (fun hHeld => ?_)
    (refine wpAnyH_take (i := 0) (v := ?v0x1) rfl (by kernel_rfl) (by kernel_rfl) (by kernel_rfl) (fun _ _ _ h => h) (Or.inl ⟨by rfl, ?hy0x1⟩) (by assumption) ?rest0x1; case hy0x1 => (intro w hSw; (try dsimp only at hSw); go_split_ands; go_simp; (try with_reducible rfl)))
    try simp only [Act.put, List.setIfInBounds_toArray, List.set_cons_zero, List.set_cons_succ, List.getElem_toArray, List.getElem_cons_zero, List.getElem_cons_succ]
    (refine wpAnyH_take (i := 2) (v := ?v2x2) rfl (by kernel_rfl) (by kernel_rfl) (by kernel_rfl) (fun _ _ _ h => h) (Or.inl ⟨by rfl, ?hy2x2⟩) (by assumption) ?rest2x2; case hy2x2 => (intro w hSw; (try dsimp only at hSw); go_split_ands; go_simp; (try with_reducible rfl)))
    try simp only [Act.put, List.setIfInBounds_toArray, List.set_cons_zero, List.set_cons_succ, List.getElem_toArray, List.getElem_cons_zero, List.getElem_cons_succ]
    (refine wpAnyH_take (i := 3) (v := ?v3x3) rfl (by kernel_rfl) (by kernel_rfl) (by kernel_rfl) (fun _ _ _ h => h) (Or.inl ⟨by rfl, ?hy3x3⟩) (by assumption) ?rest3x3; case hy3x3 => (intro w hSw; (try dsimp only at hSw); go_split_ands; go_simp; (try with_reducible rfl)))
    try simp only [Act.put, List.setIfInBounds_toArray, List.set_cons_zero, List.set_cons_succ, List.getElem_toArray, List.getElem_cons_zero, List.getElem_cons_succ]
    (refine wpAnyH_take (i := 4) (v := ?v4x4) rfl (by kernel_rfl) (by kernel_rfl) (by kernel_rfl) (fun _ _ _ h => h) (Or.inl ⟨by rfl, ?hy4x4⟩) (by assumption) ?rest4x4; case hy4x4 => (intro w hSw; (try dsimp only at hSw); go_split_ands; go_simp; (try with_reducible rfl)))
    try simp only [Act.put, List.setIfInBounds_toArray, List.set_cons_zero, List.set_cons_succ, List.getElem_toArray, List.getElem_cons_zero, List.getElem_cons_succ]
    refine wpAnyH_ready (rs := [1]) (by kernel_rfl) (by simp) ?_
    refine AllReadyH.cons rfl (fun K hK => ?_) AllReadyH.nil
    go_simp
    refine (qR _ (Below.drew b2)).mono ?_
    rintro e w3 ⟨rfl, b3⟩
    refine hK.out _ _ (keepC hHeld b3) (fun hHeld => ?_)
    clear hK K
    try simp only [Act.put, List.setIfInBounds_toArray, List.set_cons_zero, List.set_cons_succ, List.getElem_toArray, List.getElem_cons_zero, List.getElem_cons_succ]
    have b3x : Below w1.heap.size w1 w3 := (Below.drew b2).trans (b3.mono b2.size)
    have B3 : Below w.heap.size w w3 := B1.trans (b3x.mono B1.size)
    refine wpAnyH_ready (rs := [5]) (by kernel_rfl) (by simp) ?_
    refine AllReadyH.cons rfl (fun K hK => ?_) AllReadyH.nil
    go_simp
    refine (qL _ B3).mono ?_
    rintro e w4 ⟨rfl, b4⟩
    refine hK.out _ _ (keepC hHeld b4) (fun hHeld => ?_)
    clear hK K
    try simp only [Act.put, List.setIfInBounds_toArray, List.set_cons_zero, List.set_cons_succ, List.getElem_toArray, List.getElem_cons_zero, List.getElem_cons_succ]
    have B4 : Below w.heap.size w w4 := B3.trans (b4.mono B3.size)
    (refine wpAnyH_take (i := 6) (v := ?v6x5) rfl (by kernel_rfl) (by kernel_rfl) (by kernel_rfl) (fun _ _ _ h => h) (Or.inl ⟨by rfl, ?hy6x5⟩) (by assumption) ?rest6x5; case hy6x5 => (intro w hSw; (try dsimp only at hSw); go_split_ands; go_simp; (try with_reducible rfl)))
    try simp only [Act.put, List.setIfInBounds_toArray, List.set_cons_zero, List.set_cons_succ, List.getElem_toArray, List.getElem_cons_zero, List.getElem_cons_succ]
    (refine wpAnyH_take (i := 7) (v := ?v7x6) rfl (by kernel_rfl) (by kernel_rfl) (by kernel_rfl) (fun _ _ _ h => h) (Or.inl ⟨by rfl, ?hy7x6⟩) (by assumption) ?rest7x6; case hy7x6 => (intro w hSw; (try dsimp only at hSw); go_split_ands; go_simp; (try with_reducible rfl)))
    try simp only [Act.put, List.setIfInBounds_toArray, List.set_cons_zero, List.set_cons_succ, List.getElem_toArray, List.getElem_cons_zero, List.getElem_cons_succ]
    refine wpAnyH_done (by kernel_rfl) ?_ _
    clear hHeld
    go_wp2
    go_ret
    exact ⟨rfl, B4⟩
  · have h2 : 2 ≤ l.length := by omega
    have HE : Hid (r = nodeH (root (l.take (half l.length))) (root (l.drop (half l.length)))) := HR2.out h2
    have d1 : ((l.length : Int) == 1) = false := by rw [beq_eq_false_iff_ne]; omega
    clear HR1 HR2
    clear hone
    go_wp2
    go_loopw [5] (fun i wr => ∃ k f : Nat, i = .int .i64 (k : Int) ∧ 1 ≤ k ∧ k ≤ l.length + 1 ∧ l.length ≤ k + f ∧ Hid (halfF f k l.length = half l.length) ∧ wr = w2) (fun i _ => l.length + 1 - (intOf i).toNat)
    case atStart => exact ⟨1, l.length, rfl, Nat.le_refl _, by omega, by omega, rfl, rfl⟩
    case round =>
      obtain ⟨k, f, rfl, hk1, hk2, hf, HH, hwr⟩ := hrel
      have hwr := hwr.symm
      subst hwr
      by_cases hlt : 2 * k < l.length
      · obtain ⟨g, rfl⟩ : ∃ g, f = g + 1 := ⟨f - 1, by omega⟩
        have HN : Hid (halfF g (2 * k) l.length = half l.length) := by
          show _ = _
          rw [← HH.out, halfF, if_pos hlt]
        have hlt' : (2 : Int) * (k : Int) < (l.length : Int) := by omega
        clear HH
        go_wp2
        go_roundw
        case rel => exact ⟨2 * k, g, by go_num, by omega, by omega, by omega, HN, by trivial⟩
        case measure => simp [intOf]; omega
      · have HN : half l.length = k := by
          rw [← HH.out]
          cases f with
          | zero => rfl
          | succ f => rw [halfF, if_neg hlt]
        have hk := half_ok h2
        have he' := HE.out
        rw [HN] at hk he'
        obtain ⟨_, hk3, hk4⟩ := hk
        have hlt' : ¬ (2 : Int) * (k : Int) < (l.length : Int) := by omega
        have t1 : Sl w1 (.slice (some ⟨b, off, none⟩) k cap) (ss (l.take k)) := by rw [← ss_take]; exact s1.front k (by rw [ss_len]; omega)
        have t2 : Sl w1 (.slice (some ⟨b, off + k, none⟩) (l.length - k) (cap - k)) (ss (l.drop k)) := by rw [← ss_drop]; exact slBack s1 k (by rw [ss_len]; omega)
        have q1 : ∀ W, Below w1.heap.size w1 W → _ := fun W hW => iRoot W (B1.trans (hW.mono B1.size)) _ (l.take k) (t1.later hW) (by rw [List.length_take]; omega) (fun s hs => HZ.out s (List.mem_of_mem_take hs))
        have q2 : ∀ W, Below w1.heap.size w1 W → _ := fun W hW => iRoot W (B1.trans (hW.mono B1.size)) _ (l.drop k) (t2.later hW) (by rw [List.length_drop]; omega) (fun s hs => HZ.out s (List.mem_of_mem_drop hs))
        rw [rootOf_small (by rw [List.length_take]; omega)] at q1
        rw [rootOf_small (by rw [List.length_drop]; omega)] at q2
        have z1 := root_size (l.take k)
        have z2 := root_size (l.drop k)
        obtain ⟨x, hx⟩ : ∃ x, root (l.take k) = x := ⟨_, rfl⟩
        obtain ⟨y, hy⟩ : ∃ x, root (l.drop k) = x := ⟨_, rfl⟩
        simp only [hx] at q1 z1 he'
        simp only [hy] at q2 z2 he'
        have q3 : ∀ W, Below w.heap.size w W → _ := fun W hW => iNode W hW x y (by omega) (by omega)
        rw [← he'] at q3
        have v1 : (k : Int) ≤ (l.length : Int) := by omega
        have v2 : (k : Int) ≤ (cap : Int) := by omega
        have v3 : (l.length : Int) ≤ (cap : Int) := by omega
        have vne : ¬ cap = k := by omega
        have deq : (r.toList == r.toList) = true := by simp
        clear HH HN HE he' hx hy t1 t2 hlt
        go_wp2_with fail
        refine wp_region_held_drew (S := fun _ => True) (by kernel_rfl) trivial (fun hHeld => ?_)
        (refine wpAnyH_take (i := 0) (v := ?v0x7) rfl (by kernel_rfl) (by kernel_rfl) (by kernel_rfl) (fun _ _ _ h => h) (Or.inl ⟨by rfl, ?hy0x7⟩) (by assumption) ?rest0x7; case hy0x7 => (intro w hSw; (try dsimp only at hSw); go_split_ands; go_simp; (try with_reducible rfl)))
        try simp only [Act.put, List.setIfInBounds_toArray, List.set_cons_zero, List.set_cons_succ, List.getElem_toArray, List.getElem_cons_zero, List.getElem_cons_succ]
        (refine wpAnyH_take (i := 2) (v := ?v2x8) rfl (by kernel_rfl) (by kernel_rfl) (by kernel_rfl) (fun _ _ _ h => h) (Or.inl ⟨by rfl, ?hy2x8⟩) (by assumption) ?rest2x8; case hy2x8 => (intro w hSw; (try dsimp only at hSw); go_split_ands; go_simp; (try with_reducible rfl)))
        try simp only [Act.put, List.setIfInBounds_toArray, List.set_cons_zero, List.set_cons_succ, List.getElem_toArray, List.getElem_cons_zero, List.getElem_cons_succ]
        (refine wpAnyH_take (i := 3) (v := ?v3x9) rfl (by kernel_rfl) (by kernel_rfl) (by kernel_rfl) (fun _ _ _ h => h) (Or.inl ⟨by rfl, ?hy3x9⟩) (by assumption) ?rest3x9; case hy3x9 => (intro w hSw; (try dsimp only at hSw); go_split_ands; go_simp; (try with_reducible rfl)))
        try simp only [Act.put, List.setIfInBounds_toArray, List.set_cons_zero, List.set_cons_succ, List.getElem_toArray, List.getElem_cons_zero, List.getElem_cons_succ]
        (refine wpAnyH_take (i := 4) (v := ?v4x10) rfl (by kernel_rfl) (by kernel_rfl) (by kernel_rfl) (fun _ _ _ h => h) (Or.inl ⟨by rfl, ?hy4x10⟩) (by assumption) ?rest4x10; case hy4x10 => (intro w hSw; (try dsimp only at hSw); go_split_ands; go_simp; (try with_reducible rfl)))
        try simp only [Act.put, List.setIfInBounds_toArray, List.set_cons_zero, List.set_cons_succ, List.getElem_toArray, List.getElem_cons_zero, List.getElem_cons_succ]
        (refine wpAnyH_take (i := 6) (v := ?v6x11) rfl (by kernel_rfl) (by kernel_rfl) (by kernel_rfl) (fun _ _ _ h => h) (Or.inl ⟨by rfl, ?hy6x11⟩) (by assumption) ?rest6x11; case hy6x11 => (intro w hSw; (try dsimp only at hSw); go_split_ands; go_simp; (try with_reducible rfl)))
        try simp only [Act.put, List.setIfInBounds_toArray, List.set_cons_zero, List.set_cons_succ, List.getElem_toArray, List.getElem_cons_zero, List.getElem_cons_succ]
        (refine wpAnyH_take (i := 7) (v := ?v7x12) rfl (by kernel_rfl) (by kernel_rfl) (by kernel_rfl) (fun _ _ _ h => h) (Or.inl ⟨by rfl, ?hy7x12⟩) (by assumption) ?rest7x12; case hy7x12 => (intro w hSw; (try dsimp only at hSw); go_split_ands; go_simp; (try with_reducible rfl)))
        try simp only [Act.put, List.setIfInBounds_toArray, List.set_cons_zero, List.set_cons_succ, List.getElem_toArray, List.getElem_cons_zero, List.getElem_cons_succ]
        (refine wpAnyH_take (i := 8) (v := ?v8x13) rfl (by kernel_rfl) (by kernel_rfl) (by kernel_rfl) (fun _ _ _ h => h) (Or.inl ⟨by rfl, ?hy8x13⟩) (by assumption) ?rest8x13; case hy8x13 => (intro w hSw; (try dsimp only at hSw); go_split_ands; go_simp; (try with_reducible rfl)))
        try simp only [Act.put, List.setIfInBounds_toArray, List.set_cons_zero, List.set_cons_succ, List.getElem_toArray, List.getElem_cons_zero, List.getElem_cons_succ]
        refine wpAnyH_ready (rs := [1]) (by kernel_rfl) (by simp) ?_
        refine AllReadyH.cons rfl (fun K hK => ?_) AllReadyH.nil
        go_simp
        refine (qR _ (Below.drew b2)).mono ?_
        rintro e w3 ⟨rfl, b3⟩
        refine hK.out _ _ trivial (fun hHeld => ?_)
        clear hK K
        try simp only [Act.put, List.setIfInBounds_toArray, List.set_cons_zero, List.set_cons_succ, List.getElem_toArray, List.getElem_cons_zero, List.getElem_cons_succ]
        have b3x : Below w1.heap.size w1 w3 := (Below.drew b2).trans (b3.mono b2.size)
        refine wpAnyH_ready (rs := [5]) (by kernel_rfl) (by simp) ?_
        refine AllReadyH.cons rfl (fun K hK => ?_) AllReadyH.nil
        go_simp
        refine (q1 _ b3x).mono ?_
        rintro e w4 ⟨rfl, b4⟩
        refine hK.out _ _ trivial (fun hHeld => ?_)
        clear hK K
        try simp only [Act.put, List.setIfInBounds_toArray, List.set_cons_zero, List.set_cons_succ, List.getElem_toArray, List.getElem_cons_zero, List.getElem_cons_succ]
        have b4x : Below w1.heap.size w1 w4 := b3x.trans (b4.mono b3x.size)
        refine wpAnyH_ready (rs := [9]) (by kernel_rfl) (by simp) ?_
        refine AllReadyH.cons rfl (fun K hK => ?_) AllReadyH.nil
        go_simp
        refine (q2 _ b4x).mono ?_
        rintro e w5 ⟨rfl, b5⟩
        refine hK.out _ _ trivial (fun hHeld => ?_)
        clear hK K
        try simp only [Act.put, List.setIfInBounds_toArray, List.set_cons_zero, List.set_cons_succ, List.getElem_toArray, List.getElem_cons_zero, List.getElem_cons_succ]
        have b5x : Below w1.heap.size w1 w5 := b4x.trans (b5.mono b4x.size)
        have B5 : Below w.heap.size w w5 := B1.trans (b5x.mono B1.size)
        refine wpAnyH_ready (rs := [10]) (by kernel_rfl) (by simp) ?_
        refine AllReadyH.cons rfl (fun K hK => ?_) AllReadyH.nil
        go_simp
        refine (q3 _ B5).mono ?_
        rintro e w6 ⟨rfl, b6⟩
        refine hK.out _ _ trivial (fun hHeld => ?_)
        clear hK K
        try simp only [Act.put, List.setIfInBounds_toArray, List.set_cons_zero, List.set_cons_succ, List.getElem_toArray, List.getElem_cons_zero, List.getElem_cons_succ]
        have B6 : Below w.heap.size w w6 := B5.trans (b6.mono B5.size)
        (refine wpAnyH_take (i := 11) (v := ?v11x14) rfl (by kernel_rfl) (by kernel_rfl) (by kernel_rfl) (fun _ _ _ h => h) (Or.inl ⟨by rfl, ?hy11x14⟩) (by assumption) ?rest11x14; case hy11x14 => (intro w hSw; (try dsimp only at hSw); go_split_ands; go_simp; (try with_reducible rfl)))
        try simp only [Act.put, List.setIfInBounds_toArray, List.set_cons_zero, List.set_cons_succ, List.getElem_toArray, List.getElem_cons_zero, List.getElem_cons_succ]
        (refine wpAnyH_take (i := 12) (v := ?v12x15) rfl (by kernel_rfl) (by kernel_rfl) (by kernel_rfl) (fun _ _ _ h => h) (Or.inl ⟨by rfl, ?hy12x15⟩) (by assumption) ?rest12x15; case hy12x15 => (intro w hSw; (try dsimp only at hSw); go_split_ands; go_simp; (try with_reducible rfl)))
        try simp only [Act.put, List.setIfInBounds_toArray, List.set_cons_zero, List.set_cons_succ, List.getElem_toArray, List.getElem_cons_zero, List.getElem_cons_succ]
        refine wpAnyH_done (by kernel_rfl) ?_ _
        clear hHeld
        go_wp2
        go_ret
        exact ⟨rfl, B6⟩

end Go.Proofs.YthbonifpdpknnaaDoor.Tr
