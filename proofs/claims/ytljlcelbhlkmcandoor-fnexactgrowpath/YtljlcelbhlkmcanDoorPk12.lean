/- Texts in one: TsC, TsD, TsE, TsF, TsG. -/
import Derived.Test.YtljlcelbhlkmcanDoorPk10
import Derived.Test.YtljlcelbhlkmcanDoorPk11
import Derived.Test.YtljlcelbhlkmcanDoorPk8
import Derived.Deep.RegionHeld3
import Derived.Laws.EntriesVeiled
/- Chapter 6, the landed code: roots. -/
namespace Go.Proofs.YtljlcelbhlkmcanDoor.Tr
open Go.RowKit Go.Proofs.YtljlcelbhlkmcanDoor.Mem Go.Proofs.YtljlcelbhlkmcanDoor.Laws Go.Proofs.YtljlcelbhlkmcanDoor.Bytes Go.Proofs.YtljlcelbhlkmcanDoor.Sha
set_option linter.unusedVariables false
set_option linter.unusedSimpArgs false

theorem keepB {W W' : World} {p : Addr} {x : Value} (h : W.cell? p = some x) (b : Below W.heap.size W W') : W'.cell? p = some x := by
  rw [b.cell (World.block_lt_of_cell? W p h)]; exact h

theorem new_cellT (w : World) (u : Value) (t : TypeId) : (w.alloc (.cells #[u] t)).cell? ⟨w.heap.size, 0, none⟩ = some u := by
  rw [cell_of_row _ w.heap.size 0 #[u] t (0, 0) (heap_alloc_new w _)]
  rfl

set_option maxRecDepth 1000000 in
set_option maxHeartbeats 2000000 in
theorem root1_any : ∀ (N : Nat) (l : List ByteArray), l.length ≤ N → 1 ≤ l.length → l.length ≤ 256 → (∀ s ∈ l, s.size ≤ 10000000000) → ∀ (w : World) (v : Value) (g : Nat), Glob w → Sl w v (ss l) → w.cell? ⟨g, 0, none⟩ = some (.func (.func 30) #[] #[.pointer (some ⟨g, 0, none⟩)]) →
    Calls Tryd.prog 30 #[v, .pointer (some ⟨g, 0, none⟩)] w fun e w' => e = .returned (.string (root l)) ∧ Below w.heap.size w w' := by
  intro N
  induction N with
  | zero => intro l hN h1; omega
  | succ N ih =>
    intro l hN h1 hl hz w v g hG h hc
    by_cases h2 : 2 ≤ l.length
    · have hk0 := half_pos h2
      have hk1 := (half_ok h2).2.1
      have HN : Hid (root l = nodeH (root (l.take (half l.length))) (root (l.drop (half l.length)))) := root_more h2
      have q0 := halves_any w v l h h2 hl
      obtain ⟨ao, cap, rfl, hcap, _⟩ := h
      rw [ss_len] at q0 hcap ⊢
      obtain ⟨k, hkk⟩ : ∃ k, half l.length = k := ⟨_, rfl⟩
      rw [hkk] at hk0 hk1 HN q0
      have q1 : ∀ W v1, Below w.heap.size w W → Sl w v1 (ss (l.take k)) → _ := fun W v1 hW s1 => ih (l.take k) (by rw [List.length_take]; omega) (by rw [List.length_take]; omega) (by rw [List.length_take]; omega) (fun s hs => hz s (List.mem_of_mem_take hs)) W v1 g (hG.later hW) (s1.later hW) (keepB hc hW)
      have q2 : ∀ W v1, Below w.heap.size w W → Sl w v1 (ss (l.drop k)) → _ := fun W v1 hW s1 => ih (l.drop k) (by rw [List.length_drop]; omega) (by rw [List.length_drop]; omega) (by rw [List.length_drop]; omega) (fun s hs => hz s (List.mem_of_mem_drop hs)) W v1 g (hG.later hW) (s1.later hW) (keepB hc hW)
      have x1 := root_size (l.take k)
      have x2 := root_size (l.drop k)
      obtain ⟨x, hx⟩ : ∃ x, root (l.take k) = x := ⟨_, rfl⟩
      obtain ⟨y, hy⟩ : ∃ x, root (l.drop k) = x := ⟨_, rfl⟩
      rw [hx, hy] at HN
      rw [hx] at x1
      rw [hy] at x2
      simp only [hx] at q1
      simp only [hy] at q2
      have q3 : ∀ W, Below w.heap.size w W → _ := fun W hW => node_impl W x y (hG.later hW) (by omega) (by omega)
      have d1 : ((l.length : Int) == 1) = false := by rw [beq_eq_false_iff_ne]; omega
      clear ih hN hx hy hkk hz x1 x2
      go_enter Tryd.func30, Tryd.ntmps30
      go_wp2_with fail
      refine q0.mono ?_
      rintro e w1 ⟨b, off, rfl, s1, s2, b1⟩
      have q1 := fun W hW => q1 W _ hW s1
      have q2 := fun W hW => q2 W _ hW s2
      have hc1 := keepB hc b1
      clear s1 s2 hc q0
      go_wp2_with fail
      refine wp_region_held_drew (S := fun w' => w'.cell? ⟨g, 0, none⟩ = some (.func (.func 30) #[] #[.pointer (some ⟨g, 0, none⟩)])) (by kernel_rfl) hc1 (fun hHeld => ?_)
      (refine wpAnyH_take (i := 0) (v := ?v0x1) rfl (by kernel_rfl) (by kernel_rfl) (by kernel_rfl) (fun _ _ _ h => h) (Or.inl ⟨by rfl, ?hy0x1⟩) (by assumption) ?rest0x1; case hy0x1 => (intro w hSw; (try dsimp only at hSw); go_split_ands; go_simp; (try with_reducible rfl)))
      try simp only [Act.put, List.setIfInBounds_toArray, List.set_cons_zero, List.set_cons_succ, List.getElem_toArray, List.getElem_cons_zero, List.getElem_cons_succ]
      (refine wpAnyH_take (i := 1) (v := ?v1x2) rfl (by kernel_rfl) (by kernel_rfl) (by kernel_rfl) (fun _ _ _ h => h) (Or.inl ⟨by rfl, ?hy1x2⟩) (by assumption) ?rest1x2; case hy1x2 => (intro w hSw; (try dsimp only at hSw); go_split_ands; go_simp; (try with_reducible rfl)))
      try simp only [Act.put, List.setIfInBounds_toArray, List.set_cons_zero, List.set_cons_succ, List.getElem_toArray, List.getElem_cons_zero, List.getElem_cons_succ]
      (refine wpAnyH_take (i := 3) (v := ?v3x3) rfl (by kernel_rfl) (by kernel_rfl) (by kernel_rfl) (fun _ _ _ h => h) (Or.inl ⟨by rfl, ?hy3x3⟩) (by assumption) ?rest3x3; case hy3x3 => (intro w hSw; (try dsimp only at hSw); go_split_ands; go_simp; (try with_reducible rfl)))
      try simp only [Act.put, List.setIfInBounds_toArray, List.set_cons_zero, List.set_cons_succ, List.getElem_toArray, List.getElem_cons_zero, List.getElem_cons_succ]
      (refine wpAnyH_take (i := 4) (v := ?v4x4) rfl (by kernel_rfl) (by kernel_rfl) (by kernel_rfl) (fun _ _ _ h => h) (Or.inl ⟨by rfl, ?hy4x4⟩) (by assumption) ?rest4x4; case hy4x4 => (intro w hSw; (try dsimp only at hSw); go_split_ands; go_simp; (try with_reducible rfl)))
      try simp only [Act.put, List.setIfInBounds_toArray, List.set_cons_zero, List.set_cons_succ, List.getElem_toArray, List.getElem_cons_zero, List.getElem_cons_succ]
      refine wpAnyH_ready (rs := [2]) (by kernel_rfl) (by simp) ?_
      refine AllReadyH.cons rfl (fun K hK => ?_) AllReadyH.nil
      go_simp
      refine (q1 _ (Below.drew b1)).mono ?_
      rintro e w2 ⟨rfl, b2⟩
      refine hK.out _ _ (keepB hHeld b2) (fun hHeld => ?_)
      clear hK K
      try simp only [Act.put, List.setIfInBounds_toArray, List.set_cons_zero, List.set_cons_succ, List.getElem_toArray, List.getElem_cons_zero, List.getElem_cons_succ]
      have B2 : Below w.heap.size w w2 := (Below.drew b1).trans (b2.mono (Below.drew b1).size)
      refine wpAnyH_ready (rs := [5]) (by kernel_rfl) (by simp) ?_
      refine AllReadyH.cons rfl (fun K hK => ?_) AllReadyH.nil
      go_simp
      refine (q2 _ B2).mono ?_
      rintro e w3 ⟨rfl, b3⟩
      refine hK.out _ _ (keepB hHeld b3) (fun hHeld => ?_)
      clear hK K
      try simp only [Act.put, List.setIfInBounds_toArray, List.set_cons_zero, List.set_cons_succ, List.getElem_toArray, List.getElem_cons_zero, List.getElem_cons_succ]
      have B3 : Below w.heap.size w w3 := B2.trans (b3.mono B2.size)
      refine wpAnyH_ready (rs := [6]) (by kernel_rfl) (by simp) ?_
      refine AllReadyH.cons rfl (fun K hK => ?_) AllReadyH.nil
      go_simp
      refine (q3 _ B3).mono ?_
      rintro e w4 ⟨rfl, b4⟩
      refine hK.out _ _ (keepB hHeld b4) (fun hHeld => ?_)
      clear hK K
      try simp only [Act.put, List.setIfInBounds_toArray, List.set_cons_zero, List.set_cons_succ, List.getElem_toArray, List.getElem_cons_zero, List.getElem_cons_succ]
      have B4 : Below w.heap.size w w4 := B3.trans (b4.mono B3.size)
      (refine wpAnyH_take (i := 7) (v := ?v7x5) rfl (by kernel_rfl) (by kernel_rfl) (by kernel_rfl) (fun _ _ _ h => h) (Or.inl ⟨by rfl, ?hy7x5⟩) (by assumption) ?rest7x5; case hy7x5 => (intro w hSw; (try dsimp only at hSw); go_split_ands; go_simp; (try with_reducible rfl)))
      try simp only [Act.put, List.setIfInBounds_toArray, List.set_cons_zero, List.set_cons_succ, List.getElem_toArray, List.getElem_cons_zero, List.getElem_cons_succ]
      refine wpAnyH_done (by kernel_rfl) ?_ _
      clear hHeld
      go_wp2
      go_ret
      exact ⟨by rw [HN.out]; rfl, B4⟩
    · obtain ⟨s, rfl⟩ : ∃ s, l = [s] := by
        match l, h1, h2 with
        | [s], _, _ => exact ⟨s, rfl⟩
        | _ :: _ :: _, _, h2 => exact absurd (by simp) h2
      have HN : Hid (root [s] = leafH s) := root_one s
      have q := leaf_impl w s hG (by have := hz s (by simp); omega)
      obtain ⟨b, off, cap, rfl, hcap⟩ := slForm h (by rw [ss_len]; simp)
      have c0 : w.cell? ⟨b, off, none⟩ = some (.string s) := by
        obtain ⟨ao', c', he, _, _, hr⟩ := h
        simp only [Value.slice.injEq] at he
        obtain ⟨rfl, _, rfl⟩ := he
        obtain ⟨b', off', he', hcell⟩ := hr (by rw [ss_len]; simp)
        simp only [Option.some.injEq, Addr.mk.injEq] at he'
        obtain ⟨rfl, rfl, _⟩ := he'
        have := hcell 0 (by rw [ss_len]; simp)
        simpa [ss] using this
      have e1 : (ss [s]).length = 1 := by rw [ss_len]; rfl
      rw [e1] at hcap ⊢
      clear ih h hc hz h2 e1
      go_enter Tryd.func30, Tryd.ntmps30
      go_wp2_with fail
      refine q.mono ?_
      rintro e w1 ⟨rfl, b1⟩
      go_wp2
      go_ret
      exact ⟨by rw [HN.out]; rfl, b1⟩

set_option maxRecDepth 1000000 in
set_option maxHeartbeats 2000000 in
theorem root_impl (w : World) (v : Value) (l : List ByteArray) (hG : Glob w) (h : Sl w v (ss l)) (hl : l.length ≤ 1000000000000) (hz : ∀ s ∈ l, s.size ≤ 10000000000) :
    Calls Tryd.prog 14 #[v] w fun e w' => e = .returned (.string (rootOf l)) ∧ Below w.heap.size w w' := by
  have h0 := h
  obtain ⟨ao, cap, rfl, hcap, _⟩ := h
  rw [ss_len] at hcap h0 ⊢
  by_cases hn : l.length = 0
  · obtain rfl : l = [] := List.eq_nil_of_length_eq_zero hn
    have HN : Hid (rootOf [] = Plain.txt (digest [])) := by show _ = _; unfold rootOf; rw [if_pos (by simp), root_nil]
    have q := digest_impl w (.slice none 0 0) [] hG (Sl.nil w) (by intro x hx; simp at hx) (by simp)
    clear hz h0
    go_enter Tryd.func14, Tryd.ntmps14
    go_wp2_with fail
    refine q.mono ?_
    rintro e w1 ⟨rfl, b1⟩
    go_wp2
    go_ret
    exact ⟨by rw [HN.out]; rfl, b1⟩
  have d0 : ((l.length : Int) == 0) = false := by rw [beq_eq_false_iff_ne]; omega
  by_cases hb : 200 < l.length
  · have HN : Hid (rootOf l = ⟨#[]⟩) := by show _ = _; unfold rootOf; rw [if_neg (by omega)]
    have d1 : (200 : Int) < (l.length : Int) := by omega
    clear hz h0
    go_enter Tryd.func14, Tryd.ntmps14
    go_wp2
    go_ret
    exact ⟨by rw [HN.out]; rfl, Below.refl _ _⟩
  · have HN : Hid (rootOf l = root l) := by show _ = _; unfold rootOf; rw [if_pos (by omega)]
    have d1 : ¬ (200 : Int) < (l.length : Int) := by omega
    have hB : ∀ (u : Value) (t : TypeId), Below w.heap.size w (w.alloc (.cells #[u] t)) := fun u t => (Below.refl _ _).alloc (Nat.le_refl _) _
    have q : ∀ (t : TypeId), _ := fun t => root1_any l.length l (Nat.le_refl _) (by omega) (by omega) hz (w.alloc (.cells #[.func (.func 30) #[] #[.pointer (some ⟨w.heap.size, 0, none⟩)]] t)) _ w.heap.size (hG.later (hB _ t)) (h0.later (hB _ t)) (new_cellT _ _ _)
    clear h0 hz
    go_enter Tryd.func14, Tryd.ntmps14
    go_wp2_with fail
    refine (q _).mono ?_
    rintro e w1 ⟨rfl, b1⟩
    have B1 : Below w.heap.size w w1 := (hB _ _).trans (b1.mono (hB _ _).size)
    go_wp2
    go_ret
    exact ⟨by rw [HN.out]; rfl, B1⟩

end Go.Proofs.YtljlcelbhlkmcanDoor.Tr

/- Chapter 6, the landed code: paths. -/
namespace Go.Proofs.YtljlcelbhlkmcanDoor.Tr
open Go.RowKit Go.Proofs.YtljlcelbhlkmcanDoor.Mem Go.Proofs.YtljlcelbhlkmcanDoor.Laws Go.Proofs.YtljlcelbhlkmcanDoor.Bytes Go.Proofs.YtljlcelbhlkmcanDoor.Sha
set_option linter.unusedVariables false
set_option linter.unusedSimpArgs false

theorem nilT (w : World) (lo hi : Nat) : Own w lo hi 9 (.slice none 0 0) (ss []) :=
  ⟨World.ownsRow_nil w lo 9 1, fun g hg => by simp [Value.ownBlock] at hg⟩

set_option maxRecDepth 1000000 in
set_option maxHeartbeats 2000000 in
theorem path1_any : ∀ (N : Nat) (l : List ByteArray), l.length ≤ N → 1 ≤ l.length → l.length ≤ 200 → (∀ s ∈ l, s.size ≤ 10000000000) → ∀ (w : World) (v : Value) (g i : Nat), i ≤ 1000000 → Glob w → Sl w v (ss l) → w.cell? ⟨g, 0, none⟩ = some (.func (.func 35) #[] #[.pointer (some ⟨g, 0, none⟩)]) →
    Calls Tryd.prog 35 #[v, .int .i64 (i : Int), .pointer (some ⟨g, 0, none⟩)] w fun e w' => ∃ v', e = .returned v' ∧ Own w' w.heap.size w'.heap.size 9 v' (ss (path l i)) ∧ Below w.heap.size w w' := by
  intro N
  induction N with
  | zero => intro l hN h1; omega
  | succ N ih =>
    intro l hN h1 hl hz w v g i hi' hG h hc
    by_cases h2 : 2 ≤ l.length
    · obtain ⟨i0, hi, hz0, hz1, hz2⟩ := info_parts info9t
      have hk0 := half_pos h2
      have hk1 := (half_ok h2).2.1
      have HL : Hid (∀ j, j < half l.length → path l j = path (l.take (half l.length)) j ++ [root (l.drop (half l.length))]) := fun j hj => path_low h2 hj
      have HH : Hid (∀ j, ¬ j < half l.length → path l j = path (l.drop (half l.length)) (j - half l.length) ++ [root (l.take (half l.length))]) := fun j hj => path_high h2 hj
      have q0 := halves_any w v l h h2 (by omega)
      obtain ⟨ao, cap, rfl, hcap, _⟩ := h
      rw [ss_len] at q0 hcap ⊢
      obtain ⟨k, hkk⟩ : ∃ k, half l.length = k := ⟨_, rfl⟩
      rw [hkk] at hk0 hk1 HL HH q0
      clear hkk
      have l1 : (l.take k).length = k := by rw [List.length_take]; omega
      have l2 : (l.drop k).length = l.length - k := by rw [List.length_drop]
      have d1 : ((l.length : Int) == 1) = false := by rw [beq_eq_false_iff_ne]; omega
      by_cases hik : i < k
      · have HP : Hid (path l i = path (l.take k) i ++ [root (l.drop k)]) := HL.out i hik
        have q1 : ∀ W v1, Below w.heap.size w W → Sl w v1 (ss (l.take k)) → _ := fun W v1 hW s1 => ih (l.take k) (by omega) (by omega) (by omega) (fun s hs => hz s (List.mem_of_mem_take hs)) W v1 g i hi' (hG.later hW) (s1.later hW) (keepB hc hW)
        have hpl := path_len (l.take k) i
        have hdl := dep_le (l.take k).length i
        obtain ⟨x, hx⟩ : ∃ x, root (l.drop k) = x := ⟨_, rfl⟩
        obtain ⟨P, hP⟩ : ∃ x, path (l.take k) i = x := ⟨_, rfl⟩
        rw [hx, hP] at HP
        rw [hP] at hpl
        simp only [hP] at q1
        have q2 : ∀ W v1, Below w.heap.size w W → Sl w v1 (ss (l.drop k)) → _ := fun W v1 hW s1 => root_impl W v1 (l.drop k) (hG.later hW) (s1.later hW) (by omega) (fun s hs => hz s (List.mem_of_mem_drop hs))
        have hro : rootOf (l.drop k) = root (l.drop k) := by unfold rootOf; rw [if_pos (by omega)]
        simp only [hro, hx] at q2
        have hPl : P.length ≤ 1000000 := by omega
        have c6 : (ss P).length + 1 ≤ maxLen := by rw [ss_len]; unfold maxLen; omega
        have c7 : ((ss P).length + 1) * 16 ≤ 140737488355328 := by rw [ss_len]; omega
        have hik' : (i : Int) < (k : Int) := by omega
        clear ih hz hN hx hP HL HH l1 l2 hpl hdl hPl hik hro
        go_enter Tryd.func35, Tryd.ntmps35
        go_wp2_with fail
        refine q0.mono ?_
        rintro e w1 ⟨b, off, rfl, s1, s2, b1⟩
        have q1 := fun W hW => q1 W _ hW s1
        have q2 := fun W hW => q2 W _ hW s2
        have hc1 := keepB hc b1
        clear s1 s2 hc q0
        go_wp2_with fail
        refine (q1 _ b1).mono ?_
        rintro e w2 ⟨v2, rfl, o2, b2⟩
        have B2 : Below w.heap.size w w2 := b1.trans (b2.mono b1.size)
        have HO : Hid (Own w2 w.heap.size w2.heap.size 9 v2 (ss P)) := o2.mono b1.size (Nat.le_refl _)
        clear o2 q1 hc1 b1 b2
        go_wp2_with fail
        refine (q2 _ B2).mono ?_
        rintro e w3 ⟨rfl, b3⟩
        have B3 : Below w.heap.size w w3 := B2.trans (b3.mono B2.size)
        have o3 : Own w3 w.heap.size w3.heap.size 9 v2 (ss P) := (HO.out.later b3 (Nat.le_refl _)).mono (Nat.le_refl _) b3.size
        have hs3 := B3.size
        have c8 : ∀ o, w.heap.size ≤ (w3.alloc o).heap.size := fun o => by simp; omega
        clear HO q2 b3
        go_wp2_with (at_builtin; go_must (refine wpl_app _ rfl (.tmp 23) (.tmp 26) 24 rfl 9 i0 (.string ⟨#[]⟩) 16 Tryd.underlying24 hi hz0 hz1 hz2 rfl w.heap.size _ (ss P) rfl (o3.alloc _) _ rfl [.string x] (Laws.Sl.one _ _ _) (oneT _) c6 c7 (c8 _) ?_); intro v5 w5 o5 b5 g5)
        have B5 : Below w.heap.size w w5 := (B3.alloc B3.size _).trans b5
        go_ret
        refine ⟨_, rfl, ?_, B5⟩
        rw [HP.out, ss_app]
        exact o5
      · have HP : Hid (path l i = path (l.drop k) (i - k) ++ [root (l.take k)]) := HH.out i hik
        have q1 : ∀ W v1, Below w.heap.size w W → Sl w v1 (ss (l.drop k)) → _ := fun W v1 hW s1 => ih (l.drop k) (by omega) (by omega) (by omega) (fun s hs => hz s (List.mem_of_mem_drop hs)) W v1 g (i - k) (by omega) (hG.later hW) (s1.later hW) (keepB hc hW)
        have hpl := path_len (l.drop k) (i - k)
        have hdl := dep_le (l.drop k).length (i - k)
        obtain ⟨x, hx⟩ : ∃ x, root (l.take k) = x := ⟨_, rfl⟩
        obtain ⟨P, hP⟩ : ∃ x, path (l.drop k) (i - k) = x := ⟨_, rfl⟩
        rw [hx, hP] at HP
        rw [hP] at hpl
        simp only [hP] at q1
        have q2 : ∀ W v1, Below w.heap.size w W → Sl w v1 (ss (l.take k)) → _ := fun W v1 hW s1 => root_impl W v1 (l.take k) (hG.later hW) (s1.later hW) (by omega) (fun s hs => hz s (List.mem_of_mem_take hs))
        have hro : rootOf (l.take k) = root (l.take k) := by unfold rootOf; rw [if_pos (by omega)]
        simp only [hro, hx] at q2
        have hPl : P.length ≤ 1000000 := by omega
        have c6 : (ss P).length + 1 ≤ maxLen := by rw [ss_len]; unfold maxLen; omega
        have c7 : ((ss P).length + 1) * 16 ≤ 140737488355328 := by rw [ss_len]; omega
        have hik' : ¬ (i : Int) < (k : Int) := by omega
        have w1' : IntKind.i64.wrap ((i : Int) - (k : Int)) = ((i - k : Nat) : Int) := by rw [IntKind.wrap_i64]; omega
        clear ih hz hN hx hP HL HH l1 l2 hpl hdl hPl hik hro
        go_enter Tryd.func35, Tryd.ntmps35
        go_wp2_with fail
        refine q0.mono ?_
        rintro e w1 ⟨b, off, rfl, s1, s2, b1⟩
        have q1 := fun W hW => q1 W _ hW s2
        have q2 := fun W hW => q2 W _ hW s1
        have hc1 := keepB hc b1
        clear s1 s2 hc q0
        go_wp2_with fail
        refine (q1 _ b1).mono ?_
        rintro e w2 ⟨v2, rfl, o2, b2⟩
        have B2 : Below w.heap.size w w2 := b1.trans (b2.mono b1.size)
        have HO : Hid (Own w2 w.heap.size w2.heap.size 9 v2 (ss P)) := o2.mono b1.size (Nat.le_refl _)
        clear o2 q1 hc1 b1 b2
        go_wp2_with fail
        refine (q2 _ B2).mono ?_
        rintro e w3 ⟨rfl, b3⟩
        have B3 : Below w.heap.size w w3 := B2.trans (b3.mono B2.size)
        have o3 : Own w3 w.heap.size w3.heap.size 9 v2 (ss P) := (HO.out.later b3 (Nat.le_refl _)).mono (Nat.le_refl _) b3.size
        have hs3 := B3.size
        have c8 : ∀ o, w.heap.size ≤ (w3.alloc o).heap.size := fun o => by simp; omega
        clear HO q2 b3
        go_wp2_with (at_builtin; go_must (refine wpl_app _ rfl (.tmp 34) (.tmp 37) 24 rfl 9 i0 (.string ⟨#[]⟩) 16 Tryd.underlying24 hi hz0 hz1 hz2 rfl w.heap.size _ (ss P) rfl (o3.alloc _) _ rfl [.string x] (Laws.Sl.one _ _ _) (oneT _) c6 c7 (c8 _) ?_); intro v5 w5 o5 b5 g5)
        have B5 : Below w.heap.size w w5 := (B3.alloc B3.size _).trans b5
        go_ret
        refine ⟨_, rfl, ?_, B5⟩
        rw [HP.out, ss_app]
        exact o5
    · have HN : Hid (path l i = []) := path_no h2 i
      obtain ⟨ao, cap, rfl, hcap, _⟩ := h
      have d1 : ((l.length : Int) == 1) = true := by rw [beq_iff_eq]; omega
      rw [ss_len] at hcap ⊢
      clear ih hc hz h2
      go_enter Tryd.func35, Tryd.ntmps35
      go_wp2
      go_ret
      exact ⟨_, rfl, by rw [HN.out]; exact nilT _ _ _, Below.refl _ _⟩

set_option maxRecDepth 1000000 in
set_option maxHeartbeats 2000000 in
theorem inPath_impl (w : World) (v : Value) (l : List ByteArray) (i : Int) (hG : Glob w) (h : Sl w v (ss l)) (hl : l.length ≤ 1000000000000) (hz : ∀ s ∈ l, s.size ≤ 10000000000) :
    Calls Tryd.prog 17 #[v, .int .i64 i] w fun e w' => ∃ v', e = .returned v' ∧ Own w' w.heap.size w'.heap.size 9 v' (ss (inPath l i)) ∧ Below w.heap.size w w' := by
  have h0 := h
  obtain ⟨ao, cap, rfl, hcap, _⟩ := h
  rw [ss_len] at hcap h0 ⊢
  by_cases hin : l.length ≤ 200 ∧ 0 ≤ i ∧ i ≤ (l.length : Int) - 1
  · have HN : Hid (inPath l i = path l (i.toNat)) := by show _ = _; unfold inPath; rw [if_pos hin]
    obtain ⟨i1, i2, i3⟩ := hin
    obtain ⟨n, rfl⟩ : ∃ n : Nat, i = (n : Int) := ⟨i.toNat, by omega⟩
    rw [Int.toNat_natCast] at HN
    have d1 : ¬ (n : Int) < 0 := by omega
    have d2 : ¬ (l.length : Int) ≤ (n : Int) := by omega
    have d3 : ¬ (200 : Int) < (l.length : Int) := by omega
    have hB : ∀ (u : Value) (t : TypeId), Below w.heap.size w (w.alloc (.cells #[u] t)) := fun u t => (Below.refl _ _).alloc (Nat.le_refl _) _
    have q : ∀ (t : TypeId), _ := fun t => path1_any l.length l (Nat.le_refl _) (by omega) (by omega) hz (w.alloc (.cells #[.func (.func 35) #[] #[.pointer (some ⟨w.heap.size, 0, none⟩)]] t)) _ w.heap.size n (by omega) (hG.later (hB _ t)) (h0.later (hB _ t)) (new_cellT _ _ _)
    clear h0 hz i1 i2 i3
    go_enter Tryd.func17, Tryd.ntmps17
    go_wp2_with fail
    refine (q _).mono ?_
    rintro e w1 ⟨v1, rfl, o1, b1⟩
    have B1 : Below w.heap.size w w1 := (hB _ _).trans (b1.mono (hB _ _).size)
    have o2 := o1.mono (hB _ _).size (Nat.le_refl _)
    clear o1
    go_wp2
    go_ret
    exact ⟨_, rfl, by rw [HN.out]; exact o2, B1⟩
  · have HN : Hid (inPath l i = []) := by show _ = _; unfold inPath; rw [if_neg hin]
    clear h0 hz
    by_cases e1 : i < 0
    · have HI : Hid (¬ (l.length ≤ 200 ∧ 0 ≤ i ∧ i ≤ (l.length : Int) - 1)) := hin
      clear hin
      go_enter Tryd.func17, Tryd.ntmps17
      go_wp2
      go_ret
      exact ⟨_, rfl, by rw [HN.out]; exact nilT _ _ _, Below.refl _ _⟩
    by_cases e2 : (l.length : Int) ≤ i
    · clear hin
      go_enter Tryd.func17, Tryd.ntmps17
      go_wp2
      go_ret
      exact ⟨_, rfl, by rw [HN.out]; exact nilT _ _ _, Below.refl _ _⟩
    · have e3 : (200 : Int) < (l.length : Int) := by omega
      clear hin
      go_enter Tryd.func17, Tryd.ntmps17
      go_wp2
      go_ret
      exact ⟨_, rfl, by rw [HN.out]; exact nilT _ _ _, Below.refl _ _⟩

end Go.Proofs.YtljlcelbhlkmcanDoor.Tr

/- Chapter 6, the landed code: paths held against a root. -/
namespace Go.Proofs.YtljlcelbhlkmcanDoor.Tr
open Go.RowKit Go.Proofs.YtljlcelbhlkmcanDoor.Mem Go.Proofs.YtljlcelbhlkmcanDoor.Laws Go.Proofs.YtljlcelbhlkmcanDoor.Bytes Go.Proofs.YtljlcelbhlkmcanDoor.Sha
set_option linter.unusedVariables false
set_option linter.unusedSimpArgs false

set_option maxRecDepth 1000000 in
set_option maxHeartbeats 2000000 in
theorem rise_any : ∀ (N n : Nat), n ≤ N → 1 ≤ n → n ≤ 200 → ∀ (w : World) (v : Value) (gs g : Nat) (s : ByteArray) (i : Nat) (p : List ByteArray), Glob w → Sl w v (ss p) → i ≤ 1000000 → s.size ≤ 10000000000 → p.length ≤ 1000000000000 → (∀ t ∈ p, t.size ≤ 10000000000) →
    w.cell? ⟨gs, 0, none⟩ = some (.string s) → w.cell? ⟨g, 0, none⟩ = some (.func (.func 39) #[] #[.pointer (some ⟨gs, 0, none⟩), .pointer (some ⟨g, 0, none⟩)]) →
    Calls Tryd.prog 39 #[.int .i64 (i : Int), .int .i64 (n : Int), v, .pointer (some ⟨gs, 0, none⟩), .pointer (some ⟨g, 0, none⟩)] w fun e w' => e = .returned (.tuple #[.string (up (leafH s) i n p).1, .bool (up (leafH s) i n p).2]) ∧ Below w.heap.size w w' := by
  intro N
  induction N with
  | zero => intro n hN h1; omega
  | succ N ih =>
    intro n hN h1 hn w v gs g s i p hG h hi hs hpl hz hcs hc
    by_cases h2 : 2 ≤ n
    · have d1 : ((n : Int) == 1) = false := by rw [beq_eq_false_iff_ne]; omega
      rcases List.eq_nil_or_concat p with rfl | ⟨q, last, rfl⟩
      · have HN : Hid (up (leafH s) i n [] = (⟨#[]⟩, false)) := up_nil h2 (leafH s) i
        have q := cut_nil w v h
        clear ih hz hc hcs
        go_enter Tryd.func39, Tryd.ntmps39
        go_wp2_with fail
        refine q.mono ?_
        rintro e w1 ⟨rfl, hw1⟩
        have hw1 := hw1.symm
        subst hw1
        go_wp2
        go_ret2
        exact ⟨by rw [HN.out]; rfl, Below.refl _ _⟩
      · rw [List.concat_eq_append] at *
        have hpl' : q.length + 1 ≤ 1000000000000 := by rw [List.length_append] at hpl; exact hpl
        have qc := cut_any w v q last h (by omega)
        have hk := half_ok h2
        have hp := half_pos h2
        have HL : Hid (i < half n → up (leafH s) i n (q ++ [last]) = (nodeH (up (leafH s) i (half n) q).1 last, (up (leafH s) i (half n) q).2)) := fun hj => up_low h2 hj (leafH s) last q
        have HH : Hid (¬ i < half n → up (leafH s) i n (q ++ [last]) = (nodeH last (up (leafH s) (i - half n) (n - half n) q).1, (up (leafH s) (i - half n) (n - half n) q).2)) := fun hj => up_high h2 hj (leafH s) last q
        have q0 : ∀ W, _ := fun W => half_impl W n h2 (by omega)
        obtain ⟨k, hkk⟩ : ∃ k, half n = k := ⟨_, rfl⟩
        simp only [hkk] at hk hp HL HH q0
        obtain ⟨_, hk1, hk2⟩ := hk
        have hlz := hz last (by simp)
        have hqz : ∀ t ∈ q, t.size ≤ 10000000000 := fun t ht => hz t (by simp [ht])
        have hlf : (leafH s).size ≤ 10000000000 := by rw [leafH_size]; omega
        clear hz hpl h
        by_cases hik : i < k
        · have HP : Hid (up (leafH s) i n (q ++ [last]) = (nodeH (up (leafH s) i k q).1 last, (up (leafH s) i k q).2)) := HL.out hik
          have hxz := up_size (n := k) (i := i) (p := q) hlf
          have q1 : ∀ W v1, Below w.heap.size w W → Sl w v1 (ss q) → _ := fun W v1 hW s1 => ih k (by omega) (by omega) (by omega) W v1 gs g s i q (hG.later hW) (s1.later hW) hi hs (by omega) hqz (keepB hcs hW) (keepB hc hW)
          obtain ⟨x, hx⟩ : ∃ x, (up (leafH s) i k q).1 = x := ⟨_, rfl⟩
          obtain ⟨y, hy⟩ : ∃ x, (up (leafH s) i k q).2 = x := ⟨_, rfl⟩
          simp only [hx, hy] at q1
          rw [hx, hy] at HP
          rw [hx] at hxz
          have q2 : ∀ W, Below w.heap.size w W → _ := fun W hW => node_impl W x last (hG.later hW) (by omega) (by omega)
          have hik' : (i : Int) < (k : Int) := by omega
          clear hx hy
          clear ih HL HH hik hqz hkk
          go_enter Tryd.func39, Tryd.ntmps39
          go_wp2_with fail
          refine qc.mono ?_
          rintro e w1 ⟨v1, rfl, s1, b1⟩
          have q0 := q0 w1
          have q1 := q1 w1 v1 b1 s1
          have hc1 := keepB hc b1
          clear s1 hc qc
          go_wp2_with fail
          refine q0.mono ?_
          rintro e w2 ⟨rfl, hw2⟩
          have hw2 := hw2.symm
          subst hw2
          go_wp2_with fail
          refine q1.mono ?_
          rintro e w2 ⟨rfl, b2⟩
          have B2 : Below w.heap.size w w2 := b1.trans (b2.mono b1.size)
          have q2 := q2 w2 B2
          clear hc1 q1 b1 b2
          go_wp2_with fail
          refine q2.mono ?_
          rintro e w3 ⟨rfl, b3⟩
          have B3 : Below w.heap.size w w3 := B2.trans (b3.mono B2.size)
          go_wp2
          go_ret2
          exact ⟨by rw [HP.out]; rfl, B3⟩
        · have HP : Hid (up (leafH s) i n (q ++ [last]) = (nodeH last (up (leafH s) (i - k) (n - k) q).1, (up (leafH s) (i - k) (n - k) q).2)) := HH.out hik
          have hxz := up_size (n := n - k) (i := i - k) (p := q) hlf
          have q1 : ∀ W v1, Below w.heap.size w W → Sl w v1 (ss q) → _ := fun W v1 hW s1 => ih (n - k) (by omega) (by omega) (by omega) W v1 gs g s (i - k) q (hG.later hW) (s1.later hW) (by omega) hs (by omega) hqz (keepB hcs hW) (keepB hc hW)
          obtain ⟨x, hx⟩ : ∃ x, (up (leafH s) (i - k) (n - k) q).1 = x := ⟨_, rfl⟩
          obtain ⟨y, hy⟩ : ∃ x, (up (leafH s) (i - k) (n - k) q).2 = x := ⟨_, rfl⟩
          simp only [hx, hy] at q1
          rw [hx, hy] at HP
          rw [hx] at hxz
          have q2 : ∀ W, Below w.heap.size w W → _ := fun W hW => node_impl W last x (hG.later hW) (by omega) (by omega)
          have hik' : ¬ (i : Int) < (k : Int) := by omega
          have w1' : IntKind.i64.wrap ((i : Int) - (k : Int)) = ((i - k : Nat) : Int) := by rw [IntKind.wrap_i64]; omega
          have w2' : IntKind.i64.wrap ((n : Int) - (k : Int)) = ((n - k : Nat) : Int) := by rw [IntKind.wrap_i64]; omega
          clear hx hy
          clear ih HL HH hik hqz hkk
          go_enter Tryd.func39, Tryd.ntmps39
          go_wp2_with fail
          refine qc.mono ?_
          rintro e w1 ⟨v1, rfl, s1, b1⟩
          have q0 := q0 w1
          have q1 := q1 w1 v1 b1 s1
          have hc1 := keepB hc b1
          clear s1 hc qc
          go_wp2_with fail
          refine q0.mono ?_
          rintro e w2 ⟨rfl, hw2⟩
          have hw2 := hw2.symm
          subst hw2
          go_wp2_with fail
          refine q1.mono ?_
          rintro e w2 ⟨rfl, b2⟩
          have B2 : Below w.heap.size w w2 := b1.trans (b2.mono b1.size)
          have q2 := q2 w2 B2
          clear hc1 q1 b1 b2
          go_wp2_with fail
          refine q2.mono ?_
          rintro e w3 ⟨rfl, b3⟩
          have B3 : Below w.heap.size w w3 := B2.trans (b3.mono B2.size)
          go_wp2
          go_ret2
          exact ⟨by rw [HP.out]; rfl, B3⟩
    · have HN : Hid (up (leafH s) i n p = (leafH s, p.isEmpty)) := up_no h2 (leafH s) i p
      obtain rfl : n = 1 := by omega
      have q := leaf_impl w s hG (by omega)
      obtain ⟨ao, cap, rfl, hcap, _⟩ := h
      have dE : (((ss p).length : Int) == 0) = p.isEmpty := by rw [ss_len]; cases p <;> simp <;> omega
      clear ih hz hc h2
      go_enter Tryd.func39, Tryd.ntmps39
      go_wp2_with fail
      refine q.mono ?_
      rintro e w1 ⟨rfl, b1⟩
      go_wp2
      go_ret2
      exact ⟨by rw [HN.out]; rfl, b1⟩

set_option maxRecDepth 1000000 in
set_option maxHeartbeats 2000000 in
theorem checkIn_impl (w : World) (v : Value) (s : ByteArray) (i n : Int) (p : List ByteArray) (r : ByteArray) (hG : Glob w) (h : Sl w v (ss p)) (hl : p.length ≤ 1000000000000) (hs : s.size ≤ 10000000000) (hz : ∀ s ∈ p, s.size ≤ 10000000000) :
    Calls Tryd.prog 21 #[.string s, .int .i64 i, .int .i64 n, v, .string r] w fun e w' => e = .returned (.bool (checkIn s i n p r)) ∧ Below w.heap.size w w' := by
  have hB0 : ∀ (u : Value) (t : TypeId), Below w.heap.size w (w.alloc (.cells #[u] t)) := fun u t => (Below.refl _ _).alloc (Nat.le_refl _) _
  by_cases hin : (1 ≤ n ∧ n ≤ 200) ∧ 0 ≤ i ∧ i ≤ n - 1
  · have HN : Hid (checkIn s i n p r = ((up (leafH s) i.toNat n.toNat p).2 && eq6 (up (leafH s) i.toNat n.toNat p).1 r)) := by show _ = _; unfold checkIn; rw [if_pos hin]
    obtain ⟨⟨i1, i2⟩, i3, i4⟩ := hin
    obtain ⟨a, rfl⟩ : ∃ a : Nat, i = (a : Int) := ⟨i.toNat, by omega⟩
    obtain ⟨m, rfl⟩ : ∃ m : Nat, n = (m : Int) := ⟨n.toNat, by omega⟩
    rw [Int.toNat_natCast, Int.toNat_natCast] at HN
    have d1 : ¬ (a : Int) < 0 := by omega
    have d2 : ¬ (m : Int) ≤ (a : Int) := by omega
    have d3 : ¬ (200 : Int) < (m : Int) := by omega
    have hB : ∀ (u : Value) (t : TypeId), Below w.heap.size w ((w.alloc (.cells #[.string s] 9)).alloc (.cells #[u] t)) := fun u t => (hB0 _ _).alloc (hB0 _ _).size _
    have q : ∀ (t : TypeId), _ := fun t => rise_any m m (Nat.le_refl _) (by omega) (by omega) ((w.alloc (.cells #[.string s] 9)).alloc (.cells #[.func (.func 39) #[] #[.pointer (some ⟨w.heap.size, 0, none⟩), .pointer (some ⟨w.heap.size + 1, 0, none⟩)]] t)) v w.heap.size (w.heap.size + 1) s a p (hG.later (hB _ t)) (h.later (hB _ t)) (by omega) hs hl hz
      (by rw [(Below.refl (w.alloc (.cells #[.string s] 9)).heap.size (w.alloc (.cells #[.string s] 9))).alloc (Nat.le_refl _) _ |>.cell (by simp)]; exact new_cellT _ _ _)
      (by simp)
    obtain ⟨x, hx⟩ : ∃ x, (up (leafH s) a m p).1 = x := ⟨_, rfl⟩
    obtain ⟨y, hy⟩ : ∃ x, (up (leafH s) a m p).2 = x := ⟨_, rfl⟩
    rw [hx, hy] at HN
    simp only [hx, hy] at q
    clear h hz i1 i2 i3 i4 hx hy
    go_enter Tryd.func21, Tryd.ntmps21
    go_wp2_with fail
    refine (q _).mono ?_
    rintro e w1 ⟨rfl, b1⟩
    have B1 : Below w.heap.size w w1 := (hB _ _).trans (b1.mono (hB _ _).size)
    clear q b1
    cases y
    · go_wp2
      go_ret
      exact ⟨by rw [HN.out]; rfl, B1⟩
    · go_wp2
      go_ret
      exact ⟨by rw [HN.out]; rfl, B1⟩
  · have HN : Hid (checkIn s i n p r = false) := by show _ = _; unfold checkIn; rw [if_neg hin]
    obtain ⟨ao, cap, rfl, hcap, _⟩ := h
    clear hz
    by_cases e1 : i < 0
    · clear hin
      go_enter Tryd.func21, Tryd.ntmps21
      go_wp2
      go_ret
      exact ⟨by rw [HN.out]; rfl, hB0 _ _⟩
    by_cases e2 : n ≤ i
    · clear hin
      go_enter Tryd.func21, Tryd.ntmps21
      go_wp2
      go_ret
      exact ⟨by rw [HN.out]; rfl, hB0 _ _⟩
    · have e3 : (200 : Int) < n := by omega
      clear hin
      go_enter Tryd.func21, Tryd.ntmps21
      go_wp2
      go_ret
      exact ⟨by rw [HN.out]; rfl, hB0 _ _⟩

end Go.Proofs.YtljlcelbhlkmcanDoor.Tr

/- Chapter 6, the landed code: paths of beginnings. -/
namespace Go.Proofs.YtljlcelbhlkmcanDoor.Tr
open Go.RowKit Go.Proofs.YtljlcelbhlkmcanDoor.Mem Go.Proofs.YtljlcelbhlkmcanDoor.Laws Go.Proofs.YtljlcelbhlkmcanDoor.Bytes Go.Proofs.YtljlcelbhlkmcanDoor.Sha
set_option linter.unusedVariables false
set_option linter.unusedSimpArgs false

set_option maxRecDepth 1000000 in
set_option maxHeartbeats 2000000 in
theorem grow1_any : ∀ (N : Nat) (l : List ByteArray), l.length ≤ N → 1 ≤ l.length → l.length ≤ 200 → (∀ s ∈ l, s.size ≤ 10000000000) → ∀ (w : World) (v : Value) (g n : Nat) (whole : Bool), 1 ≤ n → n ≤ l.length → Glob w → Sl w v (ss l) → w.cell? ⟨g, 0, none⟩ = some (.func (.func 43) #[] #[.pointer (some ⟨g, 0, none⟩)]) →
    Calls Tryd.prog 43 #[v, .int .i64 (n : Int), .bool whole, .pointer (some ⟨g, 0, none⟩)] w fun e w' => ∃ v', e = .returned v' ∧ Own w' w.heap.size w'.heap.size 9 v' (ss (grow l n whole)) ∧ Below w.heap.size w w' := by
  intro N
  induction N with
  | zero => intro l hN h1; omega
  | succ N ih =>
    intro l hN h1 hl hz w v g n whole hn1 hn2 hG h hc
    by_cases hn : n = l.length
    · subst hn
      cases whole
      · have HN : Hid (grow l l.length false = [root l]) := by show _ = _; rw [grow_all]; rfl
        have q := root_impl w v l hG h (by omega) hz
        have hro : rootOf l = root l := by unfold rootOf; rw [if_pos (by omega)]
        rw [hro] at q
        obtain ⟨ao, cap, rfl, hcap, _⟩ := h
        rw [ss_len] at q ⊢
        obtain ⟨x, hx⟩ : ∃ x, root l = x := ⟨_, rfl⟩
        rw [hx] at q HN
        clear ih hz hc hx hro
        go_enter Tryd.func43, Tryd.ntmps43
        go_wp2_with fail
        refine q.mono ?_
        rintro e w1 ⟨rfl, b1⟩
        have hs1 := b1.size
        have HO : Hid (Own (w1.alloc (.cells #[.string x] 9)) w.heap.size (w1.alloc (.cells #[.string x] 9)).heap.size 9 (.slice (some ⟨w1.heap.size, 0, none⟩) 1 1) (ss [x])) := oneS w1 w.heap.size x hs1
        have HB : Hid (Below w.heap.size w (w1.alloc (.cells #[.string x] 9))) := b1.alloc hs1 _
        go_wp2
        go_ret
        exact ⟨_, rfl, by rw [HN.out]; exact HO.out, HB.out⟩
      · have HN : Hid (grow l l.length true = []) := by show _ = _; rw [grow_all]; rfl
        obtain ⟨ao, cap, rfl, hcap, _⟩ := h
        rw [ss_len]
        clear ih hz hc
        go_enter Tryd.func43, Tryd.ntmps43
        go_wp2
        go_ret
        exact ⟨_, rfl, by rw [HN.out]; exact nilT _ _ _, Below.refl _ _⟩
    · have h2 : 2 ≤ l.length := by omega
      obtain ⟨i0, hi, hz0, hz1, hz2⟩ := info_parts info9t
      have hk0 := half_pos h2
      have hk1 := (half_ok h2).2.1
      have HL : Hid (n ≤ half l.length → grow l n whole = grow (l.take (half l.length)) n whole ++ [root (l.drop (half l.length))]) := fun hj => grow_low h2 hn hj whole
      have HH : Hid (¬ n ≤ half l.length → grow l n whole = grow (l.drop (half l.length)) (n - half l.length) false ++ [root (l.take (half l.length))]) := fun hj => grow_high h2 hn hj whole
      have q0 := halves_any w v l h h2 (by omega)
      obtain ⟨ao, cap, rfl, hcap, _⟩ := h
      rw [ss_len] at q0 hcap ⊢
      obtain ⟨k, hkk⟩ : ∃ k, half l.length = k := ⟨_, rfl⟩
      rw [hkk] at hk0 hk1 HL HH q0
      clear hkk
      have l1 : (l.take k).length = k := by rw [List.length_take]; omega
      have l2 : (l.drop k).length = l.length - k := by rw [List.length_drop]
      have d1 : ((n : Int) == (l.length : Int)) = false := by rw [beq_eq_false_iff_ne]; omega
      by_cases hik : n ≤ k
      · have HP : Hid (grow l n whole = grow (l.take k) n whole ++ [root (l.drop k)]) := HL.out hik
        have q1 : ∀ W v1, Below w.heap.size w W → Sl w v1 (ss (l.take k)) → _ := fun W v1 hW s1 => ih (l.take k) (by omega) (by omega) (by omega) (fun s hs => hz s (List.mem_of_mem_take hs)) W v1 g n whole hn1 (by omega) (hG.later hW) (s1.later hW) (keepB hc hW)
        have hpl := grow_len (l.take k) n whole
        have hdl := gdep_le (l.take k).length n whole
        obtain ⟨x, hx⟩ : ∃ x, root (l.drop k) = x := ⟨_, rfl⟩
        obtain ⟨P, hP⟩ : ∃ x, grow (l.take k) n whole = x := ⟨_, rfl⟩
        rw [hx, hP] at HP
        rw [hP] at hpl
        simp only [hP] at q1
        have q2 : ∀ W v1, Below w.heap.size w W → Sl w v1 (ss (l.drop k)) → _ := fun W v1 hW s1 => root_impl W v1 (l.drop k) (hG.later hW) (s1.later hW) (by omega) (fun s hs => hz s (List.mem_of_mem_drop hs))
        have hro : rootOf (l.drop k) = root (l.drop k) := by unfold rootOf; rw [if_pos (by omega)]
        simp only [hro, hx] at q2
        have hPl : P.length ≤ 1000000 := by omega
        have c6 : (ss P).length + 1 ≤ maxLen := by rw [ss_len]; unfold maxLen; omega
        have c7 : ((ss P).length + 1) * 16 ≤ 140737488355328 := by rw [ss_len]; omega
        have hik' : (n : Int) ≤ (k : Int) := by omega
        clear ih hz hN hx hP HL HH l1 l2 hpl hdl hPl hik hro hn
        go_enter Tryd.func43, Tryd.ntmps43
        go_wp2_with fail
        refine q0.mono ?_
        rintro e w1 ⟨b, off, rfl, s1, s2, b1⟩
        have q1 := fun W hW => q1 W _ hW s1
        have q2 := fun W hW => q2 W _ hW s2
        have hc1 := keepB hc b1
        clear s1 s2 hc q0
        go_wp2_with fail
        refine (q1 _ b1).mono ?_
        rintro e w2 ⟨v2, rfl, o2, b2⟩
        have B2 : Below w.heap.size w w2 := b1.trans (b2.mono b1.size)
        have HO : Hid (Own w2 w.heap.size w2.heap.size 9 v2 (ss P)) := o2.mono b1.size (Nat.le_refl _)
        clear o2 q1 hc1 b1 b2
        go_wp2_with fail
        refine (q2 _ B2).mono ?_
        rintro e w3 ⟨rfl, b3⟩
        have B3 : Below w.heap.size w w3 := B2.trans (b3.mono B2.size)
        have o3 : Own w3 w.heap.size w3.heap.size 9 v2 (ss P) := (HO.out.later b3 (Nat.le_refl _)).mono (Nat.le_refl _) b3.size
        have hs3 := B3.size
        have c8 : ∀ o, w.heap.size ≤ (w3.alloc o).heap.size := fun o => by simp; omega
        clear HO q2 b3
        go_wp2_with (at_builtin; go_must (refine wpl_app _ rfl (.tmp 31) (.tmp 34) 24 rfl 9 i0 (.string ⟨#[]⟩) 16 Tryd.underlying24 hi hz0 hz1 hz2 rfl w.heap.size _ (ss P) rfl (o3.alloc _) _ rfl [.string x] (Laws.Sl.one _ _ _) (oneT _) c6 c7 (c8 _) ?_); intro v5 w5 o5 b5 g5)
        have B5 : Below w.heap.size w w5 := (B3.alloc B3.size _).trans b5
        go_ret
        refine ⟨_, rfl, ?_, B5⟩
        rw [HP.out, ss_app]
        exact o5
      · have HP : Hid (grow l n whole = grow (l.drop k) (n - k) false ++ [root (l.take k)]) := HH.out hik
        have q1 : ∀ W v1, Below w.heap.size w W → Sl w v1 (ss (l.drop k)) → _ := fun W v1 hW s1 => ih (l.drop k) (by omega) (by omega) (by omega) (fun s hs => hz s (List.mem_of_mem_drop hs)) W v1 g (n - k) false (by omega) (by omega) (hG.later hW) (s1.later hW) (keepB hc hW)
        have hpl := grow_len (l.drop k) (n - k) false
        have hdl := gdep_le (l.drop k).length (n - k) false
        obtain ⟨x, hx⟩ : ∃ x, root (l.take k) = x := ⟨_, rfl⟩
        obtain ⟨P, hP⟩ : ∃ x, grow (l.drop k) (n - k) false = x := ⟨_, rfl⟩
        rw [hx, hP] at HP
        rw [hP] at hpl
        simp only [hP] at q1
        have q2 : ∀ W v1, Below w.heap.size w W → Sl w v1 (ss (l.take k)) → _ := fun W v1 hW s1 => root_impl W v1 (l.take k) (hG.later hW) (s1.later hW) (by omega) (fun s hs => hz s (List.mem_of_mem_take hs))
        have hro : rootOf (l.take k) = root (l.take k) := by unfold rootOf; rw [if_pos (by omega)]
        simp only [hro, hx] at q2
        have hPl : P.length ≤ 1000000 := by omega
        have c6 : (ss P).length + 1 ≤ maxLen := by rw [ss_len]; unfold maxLen; omega
        have c7 : ((ss P).length + 1) * 16 ≤ 140737488355328 := by rw [ss_len]; omega
        have hik' : ¬ (n : Int) ≤ (k : Int) := by omega
        have w1' : IntKind.i64.wrap ((n : Int) - (k : Int)) = ((n - k : Nat) : Int) := by rw [IntKind.wrap_i64]; omega
        clear ih hz hN hx hP HL HH l1 l2 hpl hdl hPl hik hro hn
        go_enter Tryd.func43, Tryd.ntmps43
        go_wp2_with fail
        refine q0.mono ?_
        rintro e w1 ⟨b, off, rfl, s1, s2, b1⟩
        have q1 := fun W hW => q1 W _ hW s2
        have q2 := fun W hW => q2 W _ hW s1
        have hc1 := keepB hc b1
        clear s1 s2 hc q0
        go_wp2_with fail
        refine (q1 _ b1).mono ?_
        rintro e w2 ⟨v2, rfl, o2, b2⟩
        have B2 : Below w.heap.size w w2 := b1.trans (b2.mono b1.size)
        have HO : Hid (Own w2 w.heap.size w2.heap.size 9 v2 (ss P)) := o2.mono b1.size (Nat.le_refl _)
        clear o2 q1 hc1 b1 b2
        go_wp2_with fail
        refine (q2 _ B2).mono ?_
        rintro e w3 ⟨rfl, b3⟩
        have B3 : Below w.heap.size w w3 := B2.trans (b3.mono B2.size)
        have o3 : Own w3 w.heap.size w3.heap.size 9 v2 (ss P) := (HO.out.later b3 (Nat.le_refl _)).mono (Nat.le_refl _) b3.size
        have hs3 := B3.size
        have c8 : ∀ o, w.heap.size ≤ (w3.alloc o).heap.size := fun o => by simp; omega
        clear HO q2 b3
        go_wp2_with (at_builtin; go_must (refine wpl_app _ rfl (.tmp 42) (.tmp 45) 24 rfl 9 i0 (.string ⟨#[]⟩) 16 Tryd.underlying24 hi hz0 hz1 hz2 rfl w.heap.size _ (ss P) rfl (o3.alloc _) _ rfl [.string x] (Laws.Sl.one _ _ _) (oneT _) c6 c7 (c8 _) ?_); intro v5 w5 o5 b5 g5)
        have B5 : Below w.heap.size w w5 := (B3.alloc B3.size _).trans b5
        go_ret
        refine ⟨_, rfl, ?_, B5⟩
        rw [HP.out, ss_app]
        exact o5

set_option maxRecDepth 1000000 in
set_option maxHeartbeats 2000000 in
theorem growPath_impl (w : World) (v : Value) (l : List ByteArray) (i : Int) (hG : Glob w) (h : Sl w v (ss l)) (hl : l.length ≤ 1000000000000) (hz : ∀ s ∈ l, s.size ≤ 10000000000) :
    Calls Tryd.prog 23 #[v, .int .i64 i] w fun e w' => ∃ v', e = .returned v' ∧ Own w' w.heap.size w'.heap.size 9 v' (ss (growPath l i)) ∧ Below w.heap.size w w' := by
  have h0 := h
  obtain ⟨ao, cap, rfl, hcap, _⟩ := h
  rw [ss_len] at hcap h0 ⊢
  by_cases hin : l.length ≤ 200 ∧ 1 ≤ i ∧ i ≤ (l.length : Int) - 1
  · have HN : Hid (growPath l i = grow l (i.toNat) true) := by show _ = _; unfold growPath; rw [if_pos hin]
    obtain ⟨i1, i2, i3⟩ := hin
    obtain ⟨n, rfl⟩ : ∃ n : Nat, i = (n : Int) := ⟨i.toNat, by omega⟩
    rw [Int.toNat_natCast] at HN
    have d1 : ¬ (n : Int) < 1 := by omega
    have d2 : ¬ (l.length : Int) ≤ (n : Int) := by omega
    have d3 : ¬ (200 : Int) < (l.length : Int) := by omega
    have hB : ∀ (u : Value) (t : TypeId), Below w.heap.size w (w.alloc (.cells #[u] t)) := fun u t => (Below.refl _ _).alloc (Nat.le_refl _) _
    have q : ∀ (t : TypeId), _ := fun t => grow1_any l.length l (Nat.le_refl _) (by omega) (by omega) hz (w.alloc (.cells #[.func (.func 43) #[] #[.pointer (some ⟨w.heap.size, 0, none⟩)]] t)) _ w.heap.size n true (by omega) (by omega) (hG.later (hB _ t)) (h0.later (hB _ t)) (new_cellT _ _ _)
    clear h0 hz i1 i2 i3
    go_enter Tryd.func23, Tryd.ntmps23
    go_wp2_with fail
    refine (q _).mono ?_
    rintro e w1 ⟨v1, rfl, o1, b1⟩
    have B1 : Below w.heap.size w w1 := (hB _ _).trans (b1.mono (hB _ _).size)
    have o2 := o1.mono (hB _ _).size (Nat.le_refl _)
    clear o1
    go_wp2
    go_ret
    exact ⟨_, rfl, by rw [HN.out]; exact o2, B1⟩
  · have HN : Hid (growPath l i = []) := by show _ = _; unfold growPath; rw [if_neg hin]
    clear h0 hz
    by_cases e1 : i < 1
    · have HI : Hid (¬ (l.length ≤ 200 ∧ 1 ≤ i ∧ i ≤ (l.length : Int) - 1)) := hin
      clear hin
      go_enter Tryd.func23, Tryd.ntmps23
      go_wp2
      go_ret
      exact ⟨_, rfl, by rw [HN.out]; exact nilT _ _ _, Below.refl _ _⟩
    by_cases e2 : (l.length : Int) ≤ i
    · clear hin
      go_enter Tryd.func23, Tryd.ntmps23
      go_wp2
      go_ret
      exact ⟨_, rfl, by rw [HN.out]; exact nilT _ _ _, Below.refl _ _⟩
    · have e3 : (200 : Int) < (l.length : Int) := by omega
      clear hin
      go_enter Tryd.func23, Tryd.ntmps23
      go_wp2
      go_ret
      exact ⟨_, rfl, by rw [HN.out]; exact nilT _ _ _, Below.refl _ _⟩

end Go.Proofs.YtljlcelbhlkmcanDoor.Tr

/- Chapter 6, the landed code: paths of beginnings, held against two roots. -/
namespace Go.Proofs.YtljlcelbhlkmcanDoor.Tr
open Go.RowKit Go.Proofs.YtljlcelbhlkmcanDoor.Mem Go.Proofs.YtljlcelbhlkmcanDoor.Laws Go.Proofs.YtljlcelbhlkmcanDoor.Bytes Go.Proofs.YtljlcelbhlkmcanDoor.Sha
set_option linter.unusedVariables false
set_option linter.unusedSimpArgs false

/-- what the landed code tells of a path of a beginning: where the path has as many as it must, the two roots -/
def Rs (z : ByteArray × ByteArray × Bool) (x y : ByteArray) (ok : Bool) : Prop := ok = z.2.2 ∧ (ok = true → x = z.1 ∧ y = z.2.1) ∧ x.size ≤ 10000000000 ∧ y.size ≤ 10000000000
theorem Rs.self {z : ByteArray × ByteArray × Bool} (h1 : z.1.size ≤ 10000000000) (h2 : z.2.1.size ≤ 10000000000) : Rs z z.1 z.2.1 z.2.2 := ⟨rfl, fun _ => ⟨rfl, rfl⟩, h1, h2⟩
theorem Rs.no {x y : ByteArray} (h1 : x.size ≤ 10000000000) (h2 : y.size ≤ 10000000000) : Rs (⟨#[]⟩, ⟨#[]⟩, false) x y false := ⟨rfl, fun h => (by cases h), h1, h2⟩
theorem Rs.low {z : ByteArray × ByteArray × Bool} {x y last : ByteArray} {ok : Bool} (h : Rs z x y ok) : Rs (z.1, nodeH z.2.1 last, z.2.2) x (nodeH y last) ok :=
  ⟨h.1, fun k => ⟨(h.2.1 k).1, by rw [(h.2.1 k).2]⟩, h.2.2.1, by rw [nodeH_size]; omega⟩
theorem Rs.high {z : ByteArray × ByteArray × Bool} {x y last : ByteArray} {ok : Bool} (h : Rs z x y ok) : Rs (nodeH last z.1, nodeH last z.2.1, z.2.2) (nodeH last x) (nodeH last y) ok :=
  ⟨h.1, fun k => ⟨by rw [(h.2.1 k).1], by rw [(h.2.1 k).2]⟩, by rw [nodeH_size]; omega, by rw [nodeH_size]; omega⟩

set_option maxRecDepth 1000000 in
set_option maxHeartbeats 2000000 in
theorem grown1_any : ∀ (N m : Nat), m ≤ N → m ≤ 200 → ∀ (w : World) (v : Value) (ga g : Nat) (n : Nat) (whole : Bool) (a : ByteArray) (p : List ByteArray), 1 ≤ n → n ≤ m → Glob w → Sl w v (ss p) → a.size ≤ 10000000000 → p.length ≤ 1000000000000 → (∀ t ∈ p, t.size ≤ 10000000000) →
    w.cell? ⟨ga, 0, none⟩ = some (.string a) → w.cell? ⟨g, 0, none⟩ = some (.func (.func 54) #[] #[.pointer (some ⟨ga, 0, none⟩), .pointer (some ⟨g, 0, none⟩)]) →
    Calls Tryd.prog 54 #[.int .i64 (n : Int), .int .i64 (m : Int), .bool whole, v, .pointer (some ⟨ga, 0, none⟩), .pointer (some ⟨g, 0, none⟩)] w fun e w' => ∃ x y ok, e = .returned (.tuple #[.string x, .string y, .bool ok]) ∧ Rs (grown n m whole a p) x y ok ∧ Below w.heap.size w w' := by
  intro N
  induction N with
  | zero => intro m hN h1 w v ga g n whole a p hn1 hn2; omega
  | succ N ih =>
    intro m hN hm w v ga g n whole a p hn1 hn2 hG h ha hpl hz hca hc
    by_cases hn : n = m
    · subst hn
      cases whole
      · rcases List.eq_nil_or_concat p with rfl | ⟨q, last, rfl⟩
        · have HN : Hid (grown n n false a [] = (⟨#[]⟩, ⟨#[]⟩, false)) := grown_not a (by simp)
          have q := cut_nil w v h
          clear ih hz hc hca
          go_enter Tryd.func54, Tryd.ntmps54
          go_wp2_with fail
          refine q.mono ?_
          rintro e w1 ⟨rfl, hw1⟩
          have hw1 := hw1.symm
          subst hw1
          go_wp2
          go_ret3
          exact ⟨_, _, _, rfl, by rw [HN.out]; exact Rs.no (Nat.zero_le _) (Nat.zero_le _), Below.refl _ _⟩
        · rw [List.concat_eq_append] at *
          have hpl' : q.length + 1 ≤ 1000000000000 := by rw [List.length_append] at hpl; exact hpl
          have qc := cut_any w v q last h (by omega)
          have hlz := hz last (by simp)
          have HR : Hid (Rs (grown n n false a (q ++ [last])) last last q.isEmpty) := by
            show Rs _ _ _ _
            cases q with
            | nil => rw [List.nil_append, grown_one]; exact ⟨rfl, fun _ => ⟨rfl, rfl⟩, hlz, hlz⟩
            | cons s q => rw [grown_not a (by simp)]; exact Rs.no hlz hlz
          have dE : (((ss q).length : Int) == 0) = q.isEmpty := by rw [ss_len]; cases q <;> simp <;> omega
          clear ih hz hc hca h hpl
          go_enter Tryd.func54, Tryd.ntmps54
          go_wp2_with fail
          refine qc.mono ?_
          rintro e w1 ⟨v1, rfl, s1, b1⟩
          obtain ⟨ao, cap, rfl, hcap, _⟩ := s1
          clear qc
          go_wp2
          go_ret3
          exact ⟨_, _, _, rfl, HR.out, b1⟩
      · have HN : Hid (grown n n true a p = (a, a, p.isEmpty)) := grown_whole n a p
        obtain ⟨ao, cap, rfl, hcap, _⟩ := h
        have dE : (((ss p).length : Int) == 0) = p.isEmpty := by rw [ss_len]; cases p <;> simp <;> omega
        clear ih hz hc
        go_enter Tryd.func54, Tryd.ntmps54
        go_wp2_with fail
        go_quiet (fail)
        go_wp2
        go_ret3
        exact ⟨_, _, _, rfl, by rw [HN.out]; exact Rs.self ha ha, below_drewN (Below.refl _ _) _⟩
    · have h2 : 2 ≤ m := by omega
      have dd : ((n : Int) == (m : Int)) = false := by rw [beq_eq_false_iff_ne]; omega
      rcases List.eq_nil_or_concat p with rfl | ⟨q, last, rfl⟩
      · have HN : Hid (grown n m whole a [] = (⟨#[]⟩, ⟨#[]⟩, false)) := grown_nil hn h2 whole a
        have q := cut_nil w v h
        clear ih hz hc hca
        go_enter Tryd.func54, Tryd.ntmps54
        go_wp2_with fail
        refine q.mono ?_
        rintro e w1 ⟨rfl, hw1⟩
        have hw1 := hw1.symm
        subst hw1
        go_wp2
        go_ret3
        exact ⟨_, _, _, rfl, by rw [HN.out]; exact Rs.no (Nat.zero_le _) (Nat.zero_le _), Below.refl _ _⟩
      · rw [List.concat_eq_append] at *
        have hpl' : q.length + 1 ≤ 1000000000000 := by rw [List.length_append] at hpl; exact hpl
        have qc := cut_any w v q last h (by omega)
        have hk := half_ok h2
        have hp := half_pos h2
        have HL : Hid (n ≤ half m → grown n m whole a (q ++ [last]) = ((grown n (half m) whole a q).1, nodeH (grown n (half m) whole a q).2.1 last, (grown n (half m) whole a q).2.2)) := fun hj => grown_low hn h2 hj whole a last q
        have HH : Hid (¬ n ≤ half m → grown n m whole a (q ++ [last]) = (nodeH last (grown (n - half m) (m - half m) false a q).1, nodeH last (grown (n - half m) (m - half m) false a q).2.1, (grown (n - half m) (m - half m) false a q).2.2)) := fun hj => grown_high hn h2 hj whole a last q
        have q0 : ∀ W, _ := fun W => half_impl W m h2 (by omega)
        obtain ⟨k, hkk⟩ : ∃ k, half m = k := ⟨_, rfl⟩
        simp only [hkk] at hk hp HL HH q0
        obtain ⟨_, hk1, hk2⟩ := hk
        have hlz := hz last (by simp)
        have hqz : ∀ t ∈ q, t.size ≤ 10000000000 := fun t ht => hz t (by simp [ht])
        clear hz hpl h
        by_cases hik : n ≤ k
        · have HP : Hid (∀ x y ok, Rs (grown n k whole a q) x y ok → Rs (grown n m whole a (q ++ [last])) x (nodeH y last) ok) := by
            intro x y ok hr
            rw [HL.out hik]
            exact hr.low
          have q1 : ∀ W v1, Below w.heap.size w W → Sl w v1 (ss q) → _ := fun W v1 hW s1 => ih k (by omega) (by omega) W v1 ga g n whole a q hn1 hik (hG.later hW) (s1.later hW) ha (by omega) hqz (keepB hca hW) (keepB hc hW)
          have q2 : ∀ W, Below w.heap.size w W → ∀ y : ByteArray, y.size ≤ 10000000000 → _ := fun W hW y hy => node_impl W y last (hG.later hW) (by omega) (by omega)
          have hik' : (n : Int) ≤ (k : Int) := by omega
          clear ih HL HH hik hqz hkk hn
          go_enter Tryd.func54, Tryd.ntmps54
          go_wp2_with fail
          refine qc.mono ?_
          rintro e w1 ⟨v1, rfl, s1, b1⟩
          have q0 := q0 w1
          have q1 := q1 w1 v1 b1 s1
          have hc1 := keepB hc b1
          clear s1 hc qc
          go_wp2_with fail
          refine q0.mono ?_
          rintro e w2 ⟨rfl, hw2⟩
          have hw2 := hw2.symm
          subst hw2
          go_wp2_with fail
          refine q1.mono ?_
          rintro e w2 ⟨x, y, ok, rfl, hr, b2⟩
          have B2 : Below w.heap.size w w2 := b1.trans (b2.mono b1.size)
          clear hc1 q1 b1 b2
          go_wp2_with fail
          refine (q2 w2 B2 _ hr.2.2.2).mono ?_
          rintro e w3 ⟨rfl, b3⟩
          have B3 : Below w.heap.size w w3 := B2.trans (b3.mono B2.size)
          clear q2 b3
          go_wp2
          go_ret3
          exact ⟨_, _, _, rfl, HP.out x y ok hr, B3⟩
        · have HP : Hid (∀ x y ok, Rs (grown (n - k) (m - k) false a q) x y ok → Rs (grown n m whole a (q ++ [last])) (nodeH last x) (nodeH last y) ok) := by
            intro x y ok hr
            rw [HH.out hik]
            exact hr.high
          have q1 : ∀ W v1, Below w.heap.size w W → Sl w v1 (ss q) → _ := fun W v1 hW s1 => ih (m - k) (by omega) (by omega) W v1 ga g (n - k) false a q (by omega) (by omega) (hG.later hW) (s1.later hW) ha (by omega) hqz (keepB hca hW) (keepB hc hW)
          have q2 : ∀ W, Below w.heap.size w W → ∀ y : ByteArray, y.size ≤ 10000000000 → _ := fun W hW y hy => node_impl W last y (hG.later hW) (by omega) (by omega)
          have hik' : ¬ (n : Int) ≤ (k : Int) := by omega
          have w1' : IntKind.i64.wrap ((n : Int) - (k : Int)) = ((n - k : Nat) : Int) := by rw [IntKind.wrap_i64]; omega
          have w2' : IntKind.i64.wrap ((m : Int) - (k : Int)) = ((m - k : Nat) : Int) := by rw [IntKind.wrap_i64]; omega
          clear ih HL HH hik hqz hkk hn
          go_enter Tryd.func54, Tryd.ntmps54
          go_wp2_with fail
          refine qc.mono ?_
          rintro e w1 ⟨v1, rfl, s1, b1⟩
          have q0 := q0 w1
          have q1 := q1 w1 v1 b1 s1
          have hc1 := keepB hc b1
          clear s1 hc qc
          go_wp2_with fail
          refine q0.mono ?_
          rintro e w2 ⟨rfl, hw2⟩
          have hw2 := hw2.symm
          subst hw2
          go_wp2_with fail
          refine q1.mono ?_
          rintro e w2 ⟨x, y, ok, rfl, hr, b2⟩
          have B2 : Below w.heap.size w w2 := b1.trans (b2.mono b1.size)
          clear hc1 q1 b1 b2
          go_wp2_with fail
          refine (q2 w2 B2 _ hr.2.2.1).mono ?_
          rintro e w4 ⟨rfl, b4⟩
          have B4 : Below w.heap.size w w4 := B2.trans (b4.mono B2.size)
          clear b4
          go_wp2_with fail
          refine (q2 w4 B4 _ hr.2.2.2).mono ?_
          rintro e w3 ⟨rfl, b3⟩
          have B3 : Below w.heap.size w w3 := B4.trans (b3.mono B4.size)
          clear q2 b3
          go_wp2
          go_ret3
          exact ⟨_, _, _, rfl, HP.out x y ok hr, B3⟩

set_option maxRecDepth 1000000 in
set_option maxHeartbeats 2000000 in
theorem grownRoots_any (w : World) (v : Value) (n m : Nat) (a : ByteArray) (p : List ByteArray) (hn1 : 1 ≤ n) (hn2 : n ≤ m) (hm : m ≤ 200) (hG : Glob w) (h : Sl w v (ss p)) (hl : p.length ≤ 1000000000000) (ha : a.size ≤ 10000000000) (hz : ∀ s ∈ p, s.size ≤ 10000000000) :
    Calls Tryd.prog 45 #[.int .i64 (n : Int), .int .i64 (m : Int), .string a, v] w fun e w' => ∃ x y ok, e = .returned (.tuple #[.string x, .string y, .bool ok]) ∧ Rs (grown n m true a p) x y ok ∧ Below w.heap.size w w' := by
  have hB0 : ∀ (u : Value) (t : TypeId), Below w.heap.size w (w.alloc (.cells #[u] t)) := fun u t => (Below.refl _ _).alloc (Nat.le_refl _) _
  have hB : ∀ (u : Value) (t : TypeId), Below w.heap.size w ((w.alloc (.cells #[.string a] 9)).alloc (.cells #[u] t)) := fun u t => (hB0 _ _).alloc (hB0 _ _).size _
  have q : ∀ (t : TypeId), _ := fun t => grown1_any m m (Nat.le_refl _) hm ((w.alloc (.cells #[.string a] 9)).alloc (.cells #[.func (.func 54) #[] #[.pointer (some ⟨w.heap.size, 0, none⟩), .pointer (some ⟨w.heap.size + 1, 0, none⟩)]] t)) v w.heap.size (w.heap.size + 1) n true a p hn1 hn2 (hG.later (hB _ t)) (h.later (hB _ t)) ha hl hz
    (by rw [(Below.refl (w.alloc (.cells #[.string a] 9)).heap.size (w.alloc (.cells #[.string a] 9))).alloc (Nat.le_refl _) _ |>.cell (by simp)]; exact new_cellT _ _ _)
    (by simp)
  clear h hz
  go_enter Tryd.func45, Tryd.ntmps45
  go_wp2_with fail
  refine (q _).mono ?_
  rintro e w1 ⟨x, y, ok, rfl, hr, b1⟩
  have B1 : Below w.heap.size w w1 := (hB _ _).trans (b1.mono (hB _ _).size)
  clear q b1
  go_wp2
  go_ret3
  exact ⟨_, _, _, rfl, hr, B1⟩

set_option maxRecDepth 1000000 in
set_option maxHeartbeats 2000000 in
theorem checkGrow_impl (w : World) (v : Value) (n m : Int) (a b : ByteArray) (p : List ByteArray) (hG : Glob w) (h : Sl w v (ss p)) (hl : p.length ≤ 1000000000000) (ha : a.size ≤ 10000000000) (hz : ∀ s ∈ p, s.size ≤ 10000000000) :
    Calls Tryd.prog 25 #[.int .i64 n, .int .i64 m, .string a, .string b, v] w fun e w' => e = .returned (.bool (checkGrow n m a b p)) ∧ Below w.heap.size w w' := by
  by_cases e1 : n < 0
  · have HN : Hid (checkGrow n m a b p = false) := by
      show _ = _
      unfold checkGrow
      split
      · rw [if_neg (by omega), if_neg (by omega)]
      · rfl
    obtain ⟨ao, cap, rfl, hcap, _⟩ := h
    clear hz
    go_enter Tryd.func25, Tryd.ntmps25
    go_wp2
    go_ret
    exact ⟨by rw [HN.out]; rfl, Below.refl _ _⟩
  by_cases e2 : m < n
  · have HN : Hid (checkGrow n m a b p = false) := by
      show _ = _
      unfold checkGrow
      split
      · rw [if_neg (by omega), if_neg (by omega)]
      · rfl
    obtain ⟨ao, cap, rfl, hcap, _⟩ := h
    clear hz
    go_enter Tryd.func25, Tryd.ntmps25
    go_wp2
    go_ret
    exact ⟨by rw [HN.out]; rfl, Below.refl _ _⟩
  by_cases e3 : 200 < m
  · have HN : Hid (checkGrow n m a b p = false) := by
      show _ = _
      unfold checkGrow
      rw [if_neg (by omega)]
    obtain ⟨ao, cap, rfl, hcap, _⟩ := h
    clear hz
    go_enter Tryd.func25, Tryd.ntmps25
    go_wp2
    go_ret
    exact ⟨by rw [HN.out]; rfl, Below.refl _ _⟩
  by_cases e4 : n = m
  · subst e4
    have HN : Hid (checkGrow n n a b p = ((a.toList == b.toList) && p.isEmpty)) := by
      show _ = _
      unfold checkGrow eq6
      rw [if_pos (by omega), if_pos rfl]
    obtain ⟨ao, cap, rfl, hcap, _⟩ := h
    have dE : (((ss p).length : Int) == 0) = p.isEmpty := by rw [ss_len]; cases p <;> simp <;> omega
    clear hz
    obtain ⟨t, ht⟩ : ∃ t, (a.toList == b.toList) = t := ⟨_, rfl⟩
    rw [ht] at HN
    cases t
    · go_enter Tryd.func25, Tryd.ntmps25
      go_wp2
      go_ret
      exact ⟨by rw [HN.out]; rfl, Below.refl _ _⟩
    · go_enter Tryd.func25, Tryd.ntmps25
      go_wp2
      go_ret
      exact ⟨by rw [HN.out]; rfl, Below.refl _ _⟩
  have d4 : (n == m) = false := by rw [beq_eq_false_iff_ne]; exact e4
  by_cases e5 : n = 0
  · subst e5
    have HN : Hid (checkGrow 0 m a b p = false) := by
      show _ = _
      unfold checkGrow
      rw [if_pos (by omega), if_neg e4, if_neg (by omega)]
    obtain ⟨ao, cap, rfl, hcap, _⟩ := h
    clear hz
    go_enter Tryd.func25, Tryd.ntmps25
    go_wp2
    go_ret
    exact ⟨by rw [HN.out]; rfl, Below.refl _ _⟩
  have d5 : (n == 0) = false := by rw [beq_eq_false_iff_ne]; exact e5
  have HN : Hid (∀ x y ok, Rs (grown n.toNat m.toNat true a p) x y ok → checkGrow n m a b p = (ok && (x.toList == a.toList) && (y.toList == b.toList))) := by
    intro x y ok hr
    unfold checkGrow eq6
    rw [if_pos (by omega), if_neg e4, if_pos (by omega), ← hr.1]
    cases ok with
    | false => rfl
    | true => rw [(hr.2.1 rfl).1, (hr.2.1 rfl).2]
  obtain ⟨k, rfl⟩ : ∃ k : Nat, n = (k : Int) := ⟨n.toNat, by omega⟩
  obtain ⟨r, rfl⟩ : ∃ r : Nat, m = (r : Int) := ⟨m.toNat, by omega⟩
  rw [Int.toNat_natCast, Int.toNat_natCast] at HN
  have q := grownRoots_any w v k r a p (by omega) (by omega) (by omega) hG h hl ha hz
  clear h hz e4 e5
  go_enter Tryd.func25, Tryd.ntmps25
  go_wp2_with fail
  refine q.mono ?_
  rintro e w1 ⟨x, y, ok, rfl, hr, b1⟩
  have HE : Hid (checkGrow (k : Int) (r : Int) a b p = (ok && (x.toList == a.toList) && (y.toList == b.toList))) := HN.out x y ok hr
  clear q hr HN
  obtain ⟨s, hs⟩ : ∃ s, (x.toList == a.toList) = s := ⟨_, rfl⟩
  rw [hs] at HE
  cases ok
  · go_wp2
    go_ret
    exact ⟨by rw [HE.out]; rfl, b1⟩
  · cases s
    · go_wp2
      go_ret
      exact ⟨by rw [HE.out]; rfl, b1⟩
    · go_wp2
      go_ret
      exact ⟨by rw [HE.out]; rfl, b1⟩

end Go.Proofs.YtljlcelbhlkmcanDoor.Tr
