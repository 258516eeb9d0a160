/- Chapter 6, the landed code: paths. -/
import Derived.Test.YthbonifpdpknnaaDoorTsC
namespace Go.Proofs.YthbonifpdpknnaaDoor.Tr
open Go.RowKit Go.Proofs.YthbonifpdpknnaaDoor.Mem Go.Proofs.YthbonifpdpknnaaDoor.Laws Go.Proofs.YthbonifpdpknnaaDoor.Bytes Go.Proofs.YthbonifpdpknnaaDoor.Sha
set_option linter.unusedVariables false
set_option linter.unusedSimpArgs false

theorem nilT (w : World) (lo hi : Nat) : Own w lo hi 9 (.slice none 0 0) (ss []) :=
  ⟨World.ownsRow_nil w lo 9 1, fun g hg => by simp [Value.ownBlock] at hg⟩

set_option maxRecDepth 1000000 in
set_option maxHeartbeats 2000000 in
theorem path1_any : ∀ (N : Nat) (l : List ByteArray), l.length ≤ N → 1 ≤ l.length → l.length ≤ 200 → (∀ s ∈ l, s.size ≤ 10000000000) → ∀ (w : World) (v : Value) (g i : Nat), i ≤ 1000000 → Glob w → Sl w v (ss l) → w.cell? ⟨g, 0, none⟩ = some (.func (.func 30) #[] #[.pointer (some ⟨g, 0, none⟩)]) →
    Calls Tryd.prog 30 #[v, .int .i64 (i : Int), .pointer (some ⟨g, 0, none⟩)] w fun e w' => ∃ v', e = .returned v' ∧ Own w' w.heap.size w'.heap.size 9 v' (ss (path l i)) ∧ Below w.heap.size w w' := by
  intro N
  induction N with
  | zero => intro l hN h1; omega
  | succ N ih =>
    intro l hN h1 hl hz w v g i hi' hG h hc
    by_cases h2 : 2 ≤ l.length
    · obtain ⟨i0, hi, hz0, hz1, hz2⟩ := info_parts info9t
      have hk0 := half_pos h2
      have hk1 := (half_ok h2).2.1
      have HL : Hid (∀ j, j < half l.length → path l j = path (l.take (half l.length)) j ++ [root (l.drop (half l.length))]) := fun j hj => path_low h2 hj
      have HH : Hid (∀ j, ¬ j < half l.length → path l j = path (l.drop (half l.length)) (j - half l.length) ++ [root (l.take (half l.length))]) := fun j hj => path_high h2 hj
      have q0 := halves_any w v l h h2 (by omega)
      obtain ⟨ao, cap, rfl, hcap, _⟩ := h
      rw [ss_len] at q0 hcap ⊢
      obtain ⟨k, hkk⟩ : ∃ k, half l.length = k := ⟨_, rfl⟩
      rw [hkk] at hk0 hk1 HL HH q0
      clear hkk
      have l1 : (l.take k).length = k := by rw [List.length_take]; omega
      have l2 : (l.drop k).length = l.length - k := by rw [List.length_drop]
      have d1 : ((l.length : Int) == 1) = false := by rw [beq_eq_false_iff_ne]; omega
      by_cases hik : i < k
      · have HP : Hid (path l i = path (l.take k) i ++ [root (l.drop k)]) := HL.out i hik
        have q1 : ∀ W v1, Below w.heap.size w W → Sl w v1 (ss (l.take k)) → _ := fun W v1 hW s1 => ih (l.take k) (by omega) (by omega) (by omega) (fun s hs => hz s (List.mem_of_mem_take hs)) W v1 g i hi' (hG.later hW) (s1.later hW) (keepB hc hW)
        have hpl := path_len (l.take k) i
        have hdl := dep_le (l.take k).length i
        obtain ⟨x, hx⟩ : ∃ x, root (l.drop k) = x := ⟨_, rfl⟩
        obtain ⟨P, hP⟩ : ∃ x, path (l.take k) i = x := ⟨_, rfl⟩
        rw [hx, hP] at HP
        rw [hP] at hpl
        simp only [hP] at q1
        have q2 : ∀ W v1, Below w.heap.size w W → Sl w v1 (ss (l.drop k)) → _ := fun W v1 hW s1 => root_impl W v1 (l.drop k) (hG.later hW) (s1.later hW) (by omega) (fun s hs => hz s (List.mem_of_mem_drop hs))
        have hro : rootOf (l.drop k) = root (l.drop k) := by unfold rootOf; rw [if_pos (by omega)]
        simp only [hro, hx] at q2
        have hPl : P.length ≤ 1000000 := by omega
        have c6 : (ss P).length + 1 ≤ maxLen := by rw [ss_len]; unfold maxLen; omega
        have c7 : ((ss P).length + 1) * 16 ≤ 140737488355328 := by rw [ss_len]; omega
        have hik' : (i : Int) < (k : Int) := by omega
        clear ih hz hN hx hP HL HH l1 l2 hpl hdl hPl hik hro
        go_enter Tryd.func30, Tryd.ntmps30
        go_wp2_with fail
        refine q0.mono ?_
        rintro e w1 ⟨b, off, rfl, s1, s2, b1⟩
        have q1 := fun W hW => q1 W _ hW s1
        have q2 := fun W hW => q2 W _ hW s2
        have hc1 := keepB hc b1
        clear s1 s2 hc q0
        go_wp2_with fail
        refine (q1 _ b1).mono ?_
        rintro e w2 ⟨v2, rfl, o2, b2⟩
        have B2 : Below w.heap.size w w2 := b1.trans (b2.mono b1.size)
        have HO : Hid (Own w2 w.heap.size w2.heap.size 9 v2 (ss P)) := o2.mono b1.size (Nat.le_refl _)
        clear o2 q1 hc1 b1 b2
        go_wp2_with fail
        refine (q2 _ B2).mono ?_
        rintro e w3 ⟨rfl, b3⟩
        have B3 : Below w.heap.size w w3 := B2.trans (b3.mono B2.size)
        have o3 : Own w3 w.heap.size w3.heap.size 9 v2 (ss P) := (HO.out.later b3 (Nat.le_refl _)).mono (Nat.le_refl _) b3.size
        have hs3 := B3.size
        have c8 : ∀ o, w.heap.size ≤ (w3.alloc o).heap.size := fun o => by simp; omega
        clear HO q2 b3
        go_wp2_with (at_builtin; go_must (refine wpl_app _ rfl (.tmp 23) (.tmp 26) 24 rfl 9 i0 (.string ⟨#[]⟩) 16 Tryd.underlying24 hi hz0 hz1 hz2 rfl w.heap.size _ (ss P) rfl (o3.alloc _) _ rfl [.string x] (Laws.Sl.one _ _ _) (oneT _) c6 c7 (c8 _) ?_); intro v5 w5 o5 b5 g5)
        have B5 : Below w.heap.size w w5 := (B3.alloc B3.size _).trans b5
        go_ret
        refine ⟨_, rfl, ?_, B5⟩
        rw [HP.out, ss_app]
        exact o5
      · have HP : Hid (path l i = path (l.drop k) (i - k) ++ [root (l.take k)]) := HH.out i hik
        have q1 : ∀ W v1, Below w.heap.size w W → Sl w v1 (ss (l.drop k)) → _ := fun W v1 hW s1 => ih (l.drop k) (by omega) (by omega) (by omega) (fun s hs => hz s (List.mem_of_mem_drop hs)) W v1 g (i - k) (by omega) (hG.later hW) (s1.later hW) (keepB hc hW)
        have hpl := path_len (l.drop k) (i - k)
        have hdl := dep_le (l.drop k).length (i - k)
        obtain ⟨x, hx⟩ : ∃ x, root (l.take k) = x := ⟨_, rfl⟩
        obtain ⟨P, hP⟩ : ∃ x, path (l.drop k) (i - k) = x := ⟨_, rfl⟩
        rw [hx, hP] at HP
        rw [hP] at hpl
        simp only [hP] at q1
        have q2 : ∀ W v1, Below w.heap.size w W → Sl w v1 (ss (l.take k)) → _ := fun W v1 hW s1 => root_impl W v1 (l.take k) (hG.later hW) (s1.later hW) (by omega) (fun s hs => hz s (List.mem_of_mem_take hs))
        have hro : rootOf (l.take k) = root (l.take k) := by unfold rootOf; rw [if_pos (by omega)]
        simp only [hro, hx] at q2
        have hPl : P.length ≤ 1000000 := by omega
        have c6 : (ss P).length + 1 ≤ maxLen := by rw [ss_len]; unfold maxLen; omega
        have c7 : ((ss P).length + 1) * 16 ≤ 140737488355328 := by rw [ss_len]; omega
        have hik' : ¬ (i : Int) < (k : Int) := by omega
        have w1' : IntKind.i64.wrap ((i : Int) - (k : Int)) = ((i - k : Nat) : Int) := by rw [IntKind.wrap_i64]; omega
        clear ih hz hN hx hP HL HH l1 l2 hpl hdl hPl hik hro
        go_enter Tryd.func30, Tryd.ntmps30
        go_wp2_with fail
        refine q0.mono ?_
        rintro e w1 ⟨b, off, rfl, s1, s2, b1⟩
        have q1 := fun W hW => q1 W _ hW s2
        have q2 := fun W hW => q2 W _ hW s1
        have hc1 := keepB hc b1
        clear s1 s2 hc q0
        go_wp2_with fail
        refine (q1 _ b1).mono ?_
        rintro e w2 ⟨v2, rfl, o2, b2⟩
        have B2 : Below w.heap.size w w2 := b1.trans (b2.mono b1.size)
        have HO : Hid (Own w2 w.heap.size w2.heap.size 9 v2 (ss P)) := o2.mono b1.size (Nat.le_refl _)
        clear o2 q1 hc1 b1 b2
        go_wp2_with fail
        refine (q2 _ B2).mono ?_
        rintro e w3 ⟨rfl, b3⟩
        have B3 : Below w.heap.size w w3 := B2.trans (b3.mono B2.size)
        have o3 : Own w3 w.heap.size w3.heap.size 9 v2 (ss P) := (HO.out.later b3 (Nat.le_refl _)).mono (Nat.le_refl _) b3.size
        have hs3 := B3.size
        have c8 : ∀ o, w.heap.size ≤ (w3.alloc o).heap.size := fun o => by simp; omega
        clear HO q2 b3
        go_wp2_with (at_builtin; go_must (refine wpl_app _ rfl (.tmp 34) (.tmp 37) 24 rfl 9 i0 (.string ⟨#[]⟩) 16 Tryd.underlying24 hi hz0 hz1 hz2 rfl w.heap.size _ (ss P) rfl (o3.alloc _) _ rfl [.string x] (Laws.Sl.one _ _ _) (oneT _) c6 c7 (c8 _) ?_); intro v5 w5 o5 b5 g5)
        have B5 : Below w.heap.size w w5 := (B3.alloc B3.size _).trans b5
        go_ret
        refine ⟨_, rfl, ?_, B5⟩
        rw [HP.out, ss_app]
        exact o5
    · have HN : Hid (path l i = []) := path_no h2 i
      obtain ⟨ao, cap, rfl, hcap, _⟩ := h
      have d1 : ((l.length : Int) == 1) = true := by rw [beq_iff_eq]; omega
      rw [ss_len] at hcap ⊢
      clear ih hc hz h2
      go_enter Tryd.func30, Tryd.ntmps30
      go_wp2
      go_ret
      exact ⟨_, rfl, by rw [HN.out]; exact nilT _ _ _, Below.refl _ _⟩

set_option maxRecDepth 1000000 in
set_option maxHeartbeats 2000000 in
theorem inPath_impl (w : World) (v : Value) (l : List ByteArray) (i : Int) (hG : Glob w) (h : Sl w v (ss l)) (hl : l.length ≤ 1000000000000) (hz : ∀ s ∈ l, s.size ≤ 10000000000) :
    Calls Tryd.prog 11 #[v, .int .i64 i] w fun e w' => ∃ v', e = .returned v' ∧ Own w' w.heap.size w'.heap.size 9 v' (ss (inPath l i)) ∧ Below w.heap.size w w' := by
  have h0 := h
  obtain ⟨ao, cap, rfl, hcap, _⟩ := h
  rw [ss_len] at hcap h0 ⊢
  by_cases hin : l.length ≤ 200 ∧ 0 ≤ i ∧ i ≤ (l.length : Int) - 1
  · have HN : Hid (inPath l i = path l (i.toNat)) := by show _ = _; unfold inPath; rw [if_pos hin]
    obtain ⟨i1, i2, i3⟩ := hin
    obtain ⟨n, rfl⟩ : ∃ n : Nat, i = (n : Int) := ⟨i.toNat, by omega⟩
    rw [Int.toNat_natCast] at HN
    have d1 : ¬ (n : Int) < 0 := by omega
    have d2 : ¬ (l.length : Int) ≤ (n : Int) := by omega
    have d3 : ¬ (200 : Int) < (l.length : Int) := by omega
    have hB : ∀ (u : Value) (t : TypeId), Below w.heap.size w (w.alloc (.cells #[u] t)) := fun u t => (Below.refl _ _).alloc (Nat.le_refl _) _
    have q : ∀ (t : TypeId), _ := fun t => path1_any l.length l (Nat.le_refl _) (by omega) (by omega) hz (w.alloc (.cells #[.func (.func 30) #[] #[.pointer (some ⟨w.heap.size, 0, none⟩)]] t)) _ w.heap.size n (by omega) (hG.later (hB _ t)) (h0.later (hB _ t)) (new_cellT _ _ _)
    clear h0 hz i1 i2 i3
    go_enter Tryd.func11, Tryd.ntmps11
    go_wp2_with fail
    refine (q _).mono ?_
    rintro e w1 ⟨v1, rfl, o1, b1⟩
    have B1 : Below w.heap.size w w1 := (hB _ _).trans (b1.mono (hB _ _).size)
    have o2 := o1.mono (hB _ _).size (Nat.le_refl _)
    clear o1
    go_wp2
    go_ret
    exact ⟨_, rfl, by rw [HN.out]; exact o2, B1⟩
  · have HN : Hid (inPath l i = []) := by show _ = _; unfold inPath; rw [if_neg hin]
    clear h0 hz
    by_cases e1 : i < 0
    · have HI : Hid (¬ (l.length ≤ 200 ∧ 0 ≤ i ∧ i ≤ (l.length : Int) - 1)) := hin
      clear hin
      go_enter Tryd.func11, Tryd.ntmps11
      go_wp2
      go_ret
      exact ⟨_, rfl, by rw [HN.out]; exact nilT _ _ _, Below.refl _ _⟩
    by_cases e2 : (l.length : Int) ≤ i
    · clear hin
      go_enter Tryd.func11, Tryd.ntmps11
      go_wp2
      go_ret
      exact ⟨_, rfl, by rw [HN.out]; exact nilT _ _ _, Below.refl _ _⟩
    · have e3 : (200 : Int) < (l.length : Int) := by omega
      clear hin
      go_enter Tryd.func11, Tryd.ntmps11
      go_wp2
      go_ret
      exact ⟨_, rfl, by rw [HN.out]; exact nilT _ _ _, Below.refl _ _⟩

end Go.Proofs.YthbonifpdpknnaaDoor.Tr
