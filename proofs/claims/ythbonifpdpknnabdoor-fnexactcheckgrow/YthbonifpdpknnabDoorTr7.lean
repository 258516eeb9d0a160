/- Chapter 6, the specification's side: the roots of a beginning and of all over a path. -/
import Derived.Test.YthbonifpdpknnabDoorTr6
namespace Go.Proofs.YthbonifpdpknnabDoor.Tr
open Go.RowKit Go.Proofs.YthbonifpdpknnabDoor.Mem Go.Proofs.YthbonifpdpknnabDoor.Laws Go.Proofs.YthbonifpdpknnabDoor.Bytes Go.Proofs.YthbonifpdpknnabDoor.Sha
set_option linter.unusedVariables false
set_option linter.unusedSimpArgs false

theorem grown_size (m : Nat) : ∀ {n : Nat} {whole : Bool} {a : ByteArray} {p : List ByteArray}, a.size ≤ 10000000000 → (∀ s ∈ p, s.size ≤ 10000000000) → (grown n m whole a p).1.size ≤ 10000000000 ∧ (grown n m whole a p).2.1.size ≤ 10000000000 := by
  refine natRec (P := fun m => ∀ {n : Nat} {whole : Bool} {a : ByteArray} {p : List ByteArray}, a.size ≤ 10000000000 → (∀ s ∈ p, s.size ≤ 10000000000) → (grown n m whole a p).1.size ≤ 10000000000 ∧ (grown n m whole a p).2.1.size ≤ 10000000000) ?_ m
  intro m ih n whole a p ha hz
  by_cases hn : n = m
  · subst hn
    cases whole
    · by_cases hp : p.length = 1
      · obtain ⟨x, rfl⟩ := List.length_eq_one_iff.1 hp
        rw [grown_one]
        exact ⟨hz x (by simp), hz x (by simp)⟩
      · rw [grown_not a hp]
        exact ⟨Nat.zero_le _, Nat.zero_le _⟩
    · rw [grown_whole]
      exact ⟨ha, ha⟩
  · by_cases h : 2 ≤ m
    · have hk := half_ok h
      have hp := half_pos h
      rcases List.eq_nil_or_concat p with rfl | ⟨q, last, rfl⟩
      · rw [grown_nil hn h]; exact ⟨Nat.zero_le _, Nat.zero_le _⟩
      · rw [List.concat_eq_append] at *
        by_cases hi : n ≤ half m
        · rw [grown_low hn h hi]
          exact ⟨(ih (half m) (by omega) ha (fun s hs => hz s (by simp [hs]))).1, by simp only [nodeH_size]; omega⟩
        · rw [grown_high hn h hi]
          exact ⟨by simp only [nodeH_size]; omega, by simp only [nodeH_size]; omega⟩
    · rw [grown_if, if_neg hn, if_neg h]
      exact ⟨Nat.zero_le _, Nat.zero_le _⟩

set_option maxRecDepth 1000000 in
set_option maxHeartbeats 4000000 in
theorem grown_any : ∀ (N m : Nat), m ≤ N → ∀ (w : World) (v : Value) (n : Nat) (whole : Bool) (a : ByteArray) (p : List ByteArray), Sl w v (ss p) → m ≤ 1000000 → 1 ≤ n → n ≤ m → a.size ≤ 10000000000 → p.length ≤ 1000000000000 → (∀ s ∈ p, s.size ≤ 10000000000) →
    Calls Tryd.prog 44 #[.int .i64 (n : Int), .int .i64 (m : Int), .bool whole, .string a, v] w fun e w' => e = .returned (.tuple #[.string (grown n m whole a p).1, .string (grown n m whole a p).2.1, .bool (grown n m whole a p).2.2]) ∧ Below w.heap.size w w' := by
  intro N
  induction N with
  | zero => intro m hN w v n whole a p h hm h1 hnm ha hpl hz; omega
  | succ N ih =>
    intro m hN w v n whole a p h hm h1 hnm ha hpl hz
    by_cases h0 : m ≤ N
    · exact ih m h0 w v n whole a p h hm h1 hnm ha hpl hz
    by_cases hn : n = m
    · subst hn
      cases whole
      · by_cases hp : p.length = 1
        · obtain ⟨x, rfl⟩ := List.length_eq_one_iff.1 hp
          have HN : Hid (grown n n false a [x] = (x, x, true)) := grown_one n a x
          obtain ⟨b, off, cap, L, rfl, hL1, hL2, hcap, c0, s1⟩ := slLast (q := []) h
          have hL : L = 1 := by simp at hL1 hL2; omega
          subst hL
          simp only [Nat.sub_self, Nat.add_zero] at c0
          clear ih h hz s1
          go_enter Tryd.func44, Tryd.ntmps44
          go_wp2_with fail
          go_quiet (fail)
          go_wp2
          go_ret3
          exact ⟨by rw [HN.out]; rfl, ⟨rfl, rfl, rfl, Nat.le_refl _, fun _ _ => rfl⟩⟩
        · have HN : Hid (grown n n false a p = (⟨#[]⟩, ⟨#[]⟩, false)) := grown_not a hp
          obtain ⟨ao, cap, rfl, hcap, _⟩ := h
          have d1 : ((p.length : Int) != 1) = true := by rw [bne_iff_ne]; omega
          rw [ss_len]
          clear ih hz
          go_enter Tryd.func44, Tryd.ntmps44
          go_wp2
          go_ret3
          exact ⟨by rw [HN.out]; rfl, Below.refl _ _⟩
      · have HN : Hid (grown n n true a p = (a, a, p.isEmpty)) := grown_whole n a p
        obtain ⟨ao, cap, rfl, hcap, _⟩ := h
        have dE : (((ss p).length : Int) == 0) = p.isEmpty := by rw [ss_len]; cases p <;> simp <;> omega
        clear ih hz
        go_enter Tryd.func44, Tryd.ntmps44
        go_wp2
        go_ret3
        exact ⟨by rw [HN.out]; rfl, Below.refl _ _⟩
    · have h2 : 2 ≤ m := by omega
      have dd : ((n : Int) == (m : Int)) = false := by rw [beq_eq_false_iff_ne]; omega
      rcases List.eq_nil_or_concat p with rfl | ⟨q, last, rfl⟩
      · have HN : Hid (grown n m whole a [] = (⟨#[]⟩, ⟨#[]⟩, false)) := grown_nil hn h2 whole a
        obtain ⟨ao, cap, rfl, hcap, _⟩ := h
        rw [ss_len]
        clear ih hz
        go_enter Tryd.func44, Tryd.ntmps44
        go_wp2
        go_ret3
        exact ⟨by rw [HN.out]; rfl, Below.refl _ _⟩
      · rw [List.concat_eq_append] at *
        obtain ⟨b, off, cap, L, rfl, hL1, hL2, hcap, c0, s1⟩ := slLast h
        have hk := half_ok h2
        have hp := half_pos h2
        have HL : Hid (n ≤ half m → grown n m whole a (q ++ [last]) = ((grown n (half m) whole a q).1, nodeH (grown n (half m) whole a q).2.1 last, (grown n (half m) whole a q).2.2)) := fun hj => grown_low hn h2 hj whole a last q
        have HH : Hid (¬ n ≤ half m → grown n m whole a (q ++ [last]) = (nodeH last (grown (n - half m) (m - half m) false a q).1, nodeH last (grown (n - half m) (m - half m) false a q).2.1, (grown (n - half m) (m - half m) false a q).2.2)) := fun hj => grown_high hn h2 hj whole a last q
        have q0 := half_spec w m (by omega)
        obtain ⟨k, hkk⟩ : ∃ k, half m = k := ⟨_, rfl⟩
        rw [hkk] at hk hp HL HH q0
        obtain ⟨_, hk1, hk2⟩ := hk
        clear hkk h
        have hlz := hz last (by simp)
        have hqz : ∀ s ∈ q, s.size ≤ 10000000000 := fun s hs => hz s (by simp [hs])
        have d0 : ((L : Int) == 0) = false := by rw [beq_eq_false_iff_ne]; omega
        have e0 : (1 : Int) ≤ (L : Int) := by omega
        have e1 : (L : Int) - 1 < (L : Int) := by omega
        have e2 : (L : Int) - 1 ≤ (cap : Int) := by omega
        have e3 : (0 : Int) ≤ (L : Int) - 1 := by omega
        have dn : ((L : Int) - 1).toNat = L - 1 := by omega
        have hpl' : q.length + 1 ≤ 1000000000000 := by rw [List.length_append] at hpl; exact hpl
        have hwr : IntKind.i64.wrap ((L : Int) - 1) = (L : Int) - 1 := by rw [IntKind.wrap_i64]; omega
        clear hz hpl
        by_cases hik : n ≤ k
        · have HP : Hid _ := HL.out hik
          have q1 := ih k (by omega) w _ n whole a q s1 (by omega) h1 hik ha (by omega) hqz
          have hxz := grown_size k (n := n) (whole := whole) ha hqz
          obtain ⟨x, hx⟩ : ∃ x, (grown n k whole a q).1 = x := ⟨_, rfl⟩
          obtain ⟨y, hy⟩ : ∃ x, (grown n k whole a q).2.1 = x := ⟨_, rfl⟩
          obtain ⟨z, hz⟩ : ∃ x, (grown n k whole a q).2.2 = x := ⟨_, rfl⟩
          rw [hx, hy, hz] at q1 HP
          rw [hx, hy] at hxz
          have q2 : ∀ W, _ := fun W => node_spec W y last (by omega) (by omega)
          have hik' : (n : Int) ≤ (k : Int) := by omega
          clear ih s1 HL HH hx hy hz hik hqz hn
          go_enter Tryd.func44, Tryd.ntmps44
          go_wp2_with fail
          refine q0.mono ?_
          rintro e w1 ⟨rfl, hw1⟩
          have hw1 := hw1.symm
          subst hw1
          go_wp2_with fail
          refine q1.mono ?_
          rintro e w2 ⟨rfl, b2⟩
          go_wp2_with fail
          refine (q2 _).mono ?_
          rintro e w3 ⟨rfl, b3⟩
          have B3 : Below w.heap.size w w3 := b2.trans (b3.mono b2.size)
          go_wp2
          go_ret3
          exact ⟨by rw [HP.out]; rfl, B3⟩
        · have HP : Hid _ := HH.out hik
          have q1 := ih (m - k) (by omega) w _ (n - k) false a q s1 (by omega) (by omega) (by omega) ha (by omega) hqz
          have hxz := grown_size (m - k) (n := n - k) (whole := false) ha hqz
          obtain ⟨x, hx⟩ : ∃ x, (grown (n - k) (m - k) false a q).1 = x := ⟨_, rfl⟩
          obtain ⟨y, hy⟩ : ∃ x, (grown (n - k) (m - k) false a q).2.1 = x := ⟨_, rfl⟩
          obtain ⟨z, hz⟩ : ∃ x, (grown (n - k) (m - k) false a q).2.2 = x := ⟨_, rfl⟩
          rw [hx, hy, hz] at q1 HP
          rw [hx, hy] at hxz
          have q2 : ∀ W, _ := fun W => node_spec W last x (by omega) (by omega)
          have q3 : ∀ W, _ := fun W => node_spec W last y (by omega) (by omega)
          have hik' : ¬ (n : Int) ≤ (k : Int) := by omega
          have w1' : IntKind.i64.wrap ((n : Int) - (k : Int)) = ((n - k : Nat) : Int) := by rw [IntKind.wrap_i64]; omega
          have w2' : IntKind.i64.wrap ((m : Int) - (k : Int)) = ((m - k : Nat) : Int) := by rw [IntKind.wrap_i64]; omega
          clear ih s1 HL HH hx hy hz hik hqz hn
          go_enter Tryd.func44, Tryd.ntmps44
          go_wp2_with fail
          refine q0.mono ?_
          rintro e w1 ⟨rfl, hw1⟩
          have hw1 := hw1.symm
          subst hw1
          go_wp2_with fail
          refine q1.mono ?_
          rintro e w2 ⟨rfl, b2⟩
          go_wp2_with fail
          refine (q2 _).mono ?_
          rintro e w3 ⟨rfl, b3⟩
          have B3 : Below w.heap.size w w3 := b2.trans (b3.mono b2.size)
          go_wp2_with fail
          refine (q3 _).mono ?_
          rintro e w4 ⟨rfl, b4⟩
          have B4 : Below w.heap.size w w4 := B3.trans (b4.mono B3.size)
          go_wp2
          go_ret3
          exact ⟨by rw [HP.out]; rfl, B4⟩

end Go.Proofs.YthbonifpdpknnabDoor.Tr
