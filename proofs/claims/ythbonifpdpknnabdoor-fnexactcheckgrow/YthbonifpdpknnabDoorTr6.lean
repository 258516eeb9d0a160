/- Chapter 6, the specification's side: roots over a path. -/
import Derived.Test.YthbonifpdpknnabDoorTr5
namespace Go.Proofs.YthbonifpdpknnabDoor.Tr
open Go.RowKit Go.Proofs.YthbonifpdpknnabDoor.Mem Go.Proofs.YthbonifpdpknnabDoor.Laws Go.Proofs.YthbonifpdpknnabDoor.Bytes Go.Proofs.YthbonifpdpknnabDoor.Sha
set_option linter.unusedVariables false
set_option linter.unusedSimpArgs false

/-- a slice of texts that ends with one: where that lies, and what is ahead of it -/
theorem slLast {w : World} {v : Value} {q : List ByteArray} {last : ByteArray} (h : Sl w v (ss (q ++ [last]))) : ∃ b off cap L, v = .slice (some ⟨b, off, none⟩) L cap ∧ L ≤ q.length + 1 ∧ q.length + 1 ≤ L ∧ L ≤ cap ∧
    w.cell? ⟨b, off + (L - 1), none⟩ = some (.string last) ∧ Sl w (.slice (some ⟨b, off, none⟩) (L - 1) cap) (ss q) := by
  have hl : (ss (q ++ [last])).length = q.length + 1 := by rw [ss_len, List.length_append]; rfl
  obtain ⟨b, off, cap, rfl, hcap⟩ := slForm h (by omega)
  refine ⟨b, off, cap, (ss (q ++ [last])).length, rfl, by omega, by omega, hcap, ?_, ?_⟩
  · obtain ⟨ao', c', he, _, _, hr⟩ := h
    simp only [Value.slice.injEq] at he
    obtain ⟨rfl, _, rfl⟩ := he
    obtain ⟨b', off', he', hcell⟩ := hr (by omega)
    simp only [Option.some.injEq, Addr.mk.injEq] at he'
    obtain ⟨rfl, rfl, _⟩ := he'
    rw [hcell _ (by omega), hl]
    simp [ss]
  · have := h.front ((ss (q ++ [last])).length - 1) (by omega)
    rw [ss_take, show (q ++ [last]).take ((ss (q ++ [last])).length - 1) = q by rw [hl]; simp] at this
    exact this

theorem up_size {leaf : ByteArray} {n i : Nat} {p : List ByteArray} (h : leaf.size ≤ 10000000000) : (up leaf i n p).1.size ≤ 10000000000 := by
  by_cases h2 : 2 ≤ n
  · rcases List.eq_nil_or_concat p with rfl | ⟨q, last, rfl⟩
    · rw [up_nil h2]; exact Nat.zero_le _
    · rw [List.concat_eq_append]
      by_cases hi : i < half n
      · rw [up_low h2 hi]; simp only [nodeH_size]; omega
      · rw [up_high h2 hi]; simp only [nodeH_size]; omega
  · rw [up_no h2]; exact h

set_option maxRecDepth 1000000 in
set_option maxHeartbeats 4000000 in
theorem up_any : ∀ (N n : Nat), n ≤ N → ∀ (w : World) (v : Value) (leaf : ByteArray) (i : Nat) (p : List ByteArray), Sl w v (ss p) → n ≤ 1000000 → i ≤ 1000000 → leaf.size ≤ 10000000000 → p.length ≤ 1000000000000 → (∀ s ∈ p, s.size ≤ 10000000000) →
    Calls Tryd.prog 37 #[.string leaf, .int .i64 (i : Int), .int .i64 (n : Int), v] w fun e w' => e = .returned (.tuple #[.string (up leaf i n p).1, .bool (up leaf i n p).2]) ∧ Below w.heap.size w w' := by
  intro N
  induction N with
  | zero =>
    intro n hN w v leaf i p h hn hi hlf hpl hz
    obtain rfl : n = 0 := by omega
    have HN : Hid (up leaf i 0 p = (leaf, p.isEmpty)) := up_no (by omega) leaf i p
    obtain ⟨ao, cap, rfl, hcap, _⟩ := h
    have dE : (((ss p).length : Int) == 0) = p.isEmpty := by rw [ss_len]; cases p <;> simp <;> omega
    go_enter Tryd.func37, Tryd.ntmps37
    go_wp2
    go_ret2
    exact ⟨by rw [HN.out]; rfl, Below.refl _ _⟩
  | succ N ih =>
    intro n hN w v leaf i p h hn hi hlf hpl hz
    by_cases h0 : n ≤ N
    · exact ih n h0 w v leaf i p h hn hi hlf hpl hz
    by_cases h2 : 2 ≤ n
    · have v2 : ¬ (n : Int) < 2 := by omega
      rcases List.eq_nil_or_concat p with rfl | ⟨q, last, rfl⟩
      · have HN : Hid (up leaf i n [] = (⟨#[]⟩, false)) := up_nil h2 leaf i
        obtain ⟨ao, cap, rfl, hcap, _⟩ := h
        rw [ss_len]
        clear ih hz
        go_enter Tryd.func37, Tryd.ntmps37
        go_wp2
        go_ret2
        exact ⟨by rw [HN.out]; rfl, Below.refl _ _⟩
      · rw [List.concat_eq_append] at *
        obtain ⟨b, off, cap, L, rfl, hL1, hL2, hcap, c0, s1⟩ := slLast h
        have hk := half_ok h2
        have hp := half_pos h2
        have HL : Hid (i < half n → up leaf i n (q ++ [last]) = (nodeH (up leaf i (half n) q).1 last, (up leaf i (half n) q).2)) := fun hj => up_low h2 hj leaf last q
        have HH : Hid (¬ i < half n → up leaf i n (q ++ [last]) = (nodeH last (up leaf (i - half n) (n - half n) q).1, (up leaf (i - half n) (n - half n) q).2)) := fun hj => up_high h2 hj leaf last q
        have q0 := half_spec w n (by omega)
        obtain ⟨k, hkk⟩ : ∃ k, half n = k := ⟨_, rfl⟩
        rw [hkk] at hk hp HL HH q0
        obtain ⟨_, hk1, hk2⟩ := hk
        clear hkk h
        have hlz := hz last (by simp)
        have hqz : ∀ s ∈ q, s.size ≤ 10000000000 := fun s hs => hz s (by simp [hs])
        have d0 : ((L : Int) == 0) = false := by rw [beq_eq_false_iff_ne]; omega
        have e0 : (1 : Int) ≤ (L : Int) := by omega
        have e1 : (L : Int) - 1 < (L : Int) := by omega
        have e2 : (L : Int) - 1 ≤ (cap : Int) := by omega
        have e3 : (0 : Int) ≤ (L : Int) - 1 := by omega
        have dn : ((L : Int) - 1).toNat = L - 1 := by omega
        have hpl' : q.length + 1 ≤ 1000000000000 := by rw [List.length_append] at hpl; exact hpl
        have hwr : IntKind.i64.wrap ((L : Int) - 1) = (L : Int) - 1 := by rw [IntKind.wrap_i64]; omega
        clear hz hpl
        by_cases hik : i < k
        · have HP : Hid (up leaf i n (q ++ [last]) = (nodeH (up leaf i k q).1 last, (up leaf i k q).2)) := HL.out hik
          have q1 := ih k (by omega) w _ leaf i q s1 (by omega) hi hlf (by omega) hqz
          have hxz := up_size (n := k) (i := i) (p := q) hlf
          obtain ⟨x, hx⟩ : ∃ x, (up leaf i k q).1 = x := ⟨_, rfl⟩
          obtain ⟨y, hy⟩ : ∃ x, (up leaf i k q).2 = x := ⟨_, rfl⟩
          rw [hx, hy] at q1 HP
          rw [hx] at hxz
          have q2 : ∀ W, _ := fun W => node_spec W x last (by omega) (by omega)
          have hik' : (i : Int) < (k : Int) := by omega
          clear ih s1 HL HH hx hy hik hqz
          go_enter Tryd.func37, Tryd.ntmps37
          go_wp2_with fail
          refine q0.mono ?_
          rintro e w1 ⟨rfl, hw1⟩
          have hw1 := hw1.symm
          subst hw1
          go_wp2_with fail
          refine q1.mono ?_
          rintro e w2 ⟨rfl, b2⟩
          go_wp2_with fail
          refine (q2 _).mono ?_
          rintro e w3 ⟨rfl, b3⟩
          have B3 : Below w.heap.size w w3 := b2.trans (b3.mono b2.size)
          go_wp2
          go_ret2
          exact ⟨by rw [HP.out]; rfl, B3⟩
        · have HP : Hid (up leaf i n (q ++ [last]) = (nodeH last (up leaf (i - k) (n - k) q).1, (up leaf (i - k) (n - k) q).2)) := HH.out hik
          have q1 := ih (n - k) (by omega) w _ leaf (i - k) q s1 (by omega) (by omega) hlf (by omega) hqz
          have hxz := up_size (n := n - k) (i := i - k) (p := q) hlf
          obtain ⟨x, hx⟩ : ∃ x, (up leaf (i - k) (n - k) q).1 = x := ⟨_, rfl⟩
          obtain ⟨y, hy⟩ : ∃ x, (up leaf (i - k) (n - k) q).2 = x := ⟨_, rfl⟩
          rw [hx, hy] at q1 HP
          rw [hx] at hxz
          have q2 : ∀ W, _ := fun W => node_spec W last x (by omega) (by omega)
          have hik' : ¬ (i : Int) < (k : Int) := by omega
          have w1' : IntKind.i64.wrap ((i : Int) - (k : Int)) = ((i - k : Nat) : Int) := by rw [IntKind.wrap_i64]; omega
          have w2' : IntKind.i64.wrap ((n : Int) - (k : Int)) = ((n - k : Nat) : Int) := by rw [IntKind.wrap_i64]; omega
          clear ih s1 HL HH hx hy hik hqz
          go_enter Tryd.func37, Tryd.ntmps37
          go_wp2_with fail
          refine q0.mono ?_
          rintro e w1 ⟨rfl, hw1⟩
          have hw1 := hw1.symm
          subst hw1
          go_wp2_with fail
          refine q1.mono ?_
          rintro e w2 ⟨rfl, b2⟩
          go_wp2_with fail
          refine (q2 _).mono ?_
          rintro e w3 ⟨rfl, b3⟩
          have B3 : Below w.heap.size w w3 := b2.trans (b3.mono b2.size)
          go_wp2
          go_ret2
          exact ⟨by rw [HP.out]; rfl, B3⟩
    · have HN : Hid (up leaf i n p = (leaf, p.isEmpty)) := up_no h2 leaf i p
      have v2 : (n : Int) < 2 := by omega
      obtain ⟨ao, cap, rfl, hcap, _⟩ := h
      have dE : (((ss p).length : Int) == 0) = p.isEmpty := by rw [ss_len]; cases p <;> simp <;> omega
      clear ih hz
      go_enter Tryd.func37, Tryd.ntmps37
      go_wp2
      go_ret2
      exact ⟨by rw [HN.out]; rfl, Below.refl _ _⟩

end Go.Proofs.YthbonifpdpknnabDoor.Tr
