/- Chapter 6, the landed code: paths held against a root. -/
import Derived.Test.YthbonifpdpknnaaDoorTsC
namespace Go.Proofs.YthbonifpdpknnaaDoor.Tr
open Go.RowKit Go.Proofs.YthbonifpdpknnaaDoor.Mem Go.Proofs.YthbonifpdpknnaaDoor.Laws Go.Proofs.YthbonifpdpknnaaDoor.Bytes Go.Proofs.YthbonifpdpknnaaDoor.Sha
set_option linter.unusedVariables false
set_option linter.unusedSimpArgs false

set_option maxRecDepth 1000000 in
set_option maxHeartbeats 2000000 in
theorem rise_any : ∀ (N n : Nat), n ≤ N → 1 ≤ n → n ≤ 200 → ∀ (w : World) (v : Value) (gs g : Nat) (s : ByteArray) (i : Nat) (p : List ByteArray), Glob w → Sl w v (ss p) → i ≤ 1000000 → s.size ≤ 10000000000 → p.length ≤ 1000000000000 → (∀ t ∈ p, t.size ≤ 10000000000) →
    w.cell? ⟨gs, 0, none⟩ = some (.string s) → w.cell? ⟨g, 0, none⟩ = some (.func (.func 34) #[] #[.pointer (some ⟨gs, 0, none⟩), .pointer (some ⟨g, 0, none⟩)]) →
    Calls Tryd.prog 34 #[.int .i64 (i : Int), .int .i64 (n : Int), v, .pointer (some ⟨gs, 0, none⟩), .pointer (some ⟨g, 0, none⟩)] w fun e w' => e = .returned (.tuple #[.string (up (leafH s) i n p).1, .bool (up (leafH s) i n p).2]) ∧ Below w.heap.size w w' := by
  intro N
  induction N with
  | zero => intro n hN h1; omega
  | succ N ih =>
    intro n hN h1 hn w v gs g s i p hG h hi hs hpl hz hcs hc
    by_cases h2 : 2 ≤ n
    · have d1 : ((n : Int) == 1) = false := by rw [beq_eq_false_iff_ne]; omega
      rcases List.eq_nil_or_concat p with rfl | ⟨q, last, rfl⟩
      · have HN : Hid (up (leafH s) i n [] = (⟨#[]⟩, false)) := up_nil h2 (leafH s) i
        have q := cut_nil w v h
        clear ih hz hc hcs
        go_enter Tryd.func34, Tryd.ntmps34
        go_wp2_with fail
        refine q.mono ?_
        rintro e w1 ⟨rfl, hw1⟩
        have hw1 := hw1.symm
        subst hw1
        go_wp2
        go_ret2
        exact ⟨by rw [HN.out]; rfl, Below.refl _ _⟩
      · rw [List.concat_eq_append] at *
        have hpl' : q.length + 1 ≤ 1000000000000 := by rw [List.length_append] at hpl; exact hpl
        have qc := cut_any w v q last h (by omega)
        have hk := half_ok h2
        have hp := half_pos h2
        have HL : Hid (i < half n → up (leafH s) i n (q ++ [last]) = (nodeH (up (leafH s) i (half n) q).1 last, (up (leafH s) i (half n) q).2)) := fun hj => up_low h2 hj (leafH s) last q
        have HH : Hid (¬ i < half n → up (leafH s) i n (q ++ [last]) = (nodeH last (up (leafH s) (i - half n) (n - half n) q).1, (up (leafH s) (i - half n) (n - half n) q).2)) := fun hj => up_high h2 hj (leafH s) last q
        have q0 : ∀ W, _ := fun W => half_impl W n h2 (by omega)
        obtain ⟨k, hkk⟩ : ∃ k, half n = k := ⟨_, rfl⟩
        simp only [hkk] at hk hp HL HH q0
        obtain ⟨_, hk1, hk2⟩ := hk
        have hlz := hz last (by simp)
        have hqz : ∀ t ∈ q, t.size ≤ 10000000000 := fun t ht => hz t (by simp [ht])
        have hlf : (leafH s).size ≤ 10000000000 := by rw [leafH_size]; omega
        clear hz hpl h
        by_cases hik : i < k
        · have HP : Hid (up (leafH s) i n (q ++ [last]) = (nodeH (up (leafH s) i k q).1 last, (up (leafH s) i k q).2)) := HL.out hik
          have hxz := up_size (n := k) (i := i) (p := q) hlf
          have q1 : ∀ W v1, Below w.heap.size w W → Sl w v1 (ss q) → _ := fun W v1 hW s1 => ih k (by omega) (by omega) (by omega) W v1 gs g s i q (hG.later hW) (s1.later hW) hi hs (by omega) hqz (keepB hcs hW) (keepB hc hW)
          obtain ⟨x, hx⟩ : ∃ x, (up (leafH s) i k q).1 = x := ⟨_, rfl⟩
          obtain ⟨y, hy⟩ : ∃ x, (up (leafH s) i k q).2 = x := ⟨_, rfl⟩
          simp only [hx, hy] at q1
          rw [hx, hy] at HP
          rw [hx] at hxz
          have q2 : ∀ W, Below w.heap.size w W → _ := fun W hW => node_impl W x last (hG.later hW) (by omega) (by omega)
          have hik' : (i : Int) < (k : Int) := by omega
          clear hx hy
          clear ih HL HH hik hqz hkk
          go_enter Tryd.func34, Tryd.ntmps34
          go_wp2_with fail
          refine qc.mono ?_
          rintro e w1 ⟨v1, rfl, s1, b1⟩
          have q0 := q0 w1
          have q1 := q1 w1 v1 b1 s1
          have hc1 := keepB hc b1
          clear s1 hc qc
          go_wp2_with fail
          refine q0.mono ?_
          rintro e w2 ⟨rfl, hw2⟩
          have hw2 := hw2.symm
          subst hw2
          go_wp2_with fail
          refine q1.mono ?_
          rintro e w2 ⟨rfl, b2⟩
          have B2 : Below w.heap.size w w2 := b1.trans (b2.mono b1.size)
          have q2 := q2 w2 B2
          clear hc1 q1 b1 b2
          go_wp2_with fail
          refine q2.mono ?_
          rintro e w3 ⟨rfl, b3⟩
          have B3 : Below w.heap.size w w3 := B2.trans (b3.mono B2.size)
          go_wp2
          go_ret2
          exact ⟨by rw [HP.out]; rfl, B3⟩
        · have HP : Hid (up (leafH s) i n (q ++ [last]) = (nodeH last (up (leafH s) (i - k) (n - k) q).1, (up (leafH s) (i - k) (n - k) q).2)) := HH.out hik
          have hxz := up_size (n := n - k) (i := i - k) (p := q) hlf
          have q1 : ∀ W v1, Below w.heap.size w W → Sl w v1 (ss q) → _ := fun W v1 hW s1 => ih (n - k) (by omega) (by omega) (by omega) W v1 gs g s (i - k) q (hG.later hW) (s1.later hW) (by omega) hs (by omega) hqz (keepB hcs hW) (keepB hc hW)
          obtain ⟨x, hx⟩ : ∃ x, (up (leafH s) (i - k) (n - k) q).1 = x := ⟨_, rfl⟩
          obtain ⟨y, hy⟩ : ∃ x, (up (leafH s) (i - k) (n - k) q).2 = x := ⟨_, rfl⟩
          simp only [hx, hy] at q1
          rw [hx, hy] at HP
          rw [hx] at hxz
          have q2 : ∀ W, Below w.heap.size w W → _ := fun W hW => node_impl W last x (hG.later hW) (by omega) (by omega)
          have hik' : ¬ (i : Int) < (k : Int) := by omega
          have w1' : IntKind.i64.wrap ((i : Int) - (k : Int)) = ((i - k : Nat) : Int) := by rw [IntKind.wrap_i64]; omega
          have w2' : IntKind.i64.wrap ((n : Int) - (k : Int)) = ((n - k : Nat) : Int) := by rw [IntKind.wrap_i64]; omega
          clear hx hy
          clear ih HL HH hik hqz hkk
          go_enter Tryd.func34, Tryd.ntmps34
          go_wp2_with fail
          refine qc.mono ?_
          rintro e w1 ⟨v1, rfl, s1, b1⟩
          have q0 := q0 w1
          have q1 := q1 w1 v1 b1 s1
          have hc1 := keepB hc b1
          clear s1 hc qc
          go_wp2_with fail
          refine q0.mono ?_
          rintro e w2 ⟨rfl, hw2⟩
          have hw2 := hw2.symm
          subst hw2
          go_wp2_with fail
          refine q1.mono ?_
          rintro e w2 ⟨rfl, b2⟩
          have B2 : Below w.heap.size w w2 := b1.trans (b2.mono b1.size)
          have q2 := q2 w2 B2
          clear hc1 q1 b1 b2
          go_wp2_with fail
          refine q2.mono ?_
          rintro e w3 ⟨rfl, b3⟩
          have B3 : Below w.heap.size w w3 := B2.trans (b3.mono B2.size)
          go_wp2
          go_ret2
          exact ⟨by rw [HP.out]; rfl, B3⟩
    · have HN : Hid (up (leafH s) i n p = (leafH s, p.isEmpty)) := up_no h2 (leafH s) i p
      obtain rfl : n = 1 := by omega
      have q := leaf_impl w s hG (by omega)
      obtain ⟨ao, cap, rfl, hcap, _⟩ := h
      have dE : (((ss p).length : Int) == 0) = p.isEmpty := by rw [ss_len]; cases p <;> simp <;> omega
      clear ih hz hc h2
      go_enter Tryd.func34, Tryd.ntmps34
      go_wp2_with fail
      refine q.mono ?_
      rintro e w1 ⟨rfl, b1⟩
      go_wp2
      go_ret2
      exact ⟨by rw [HN.out]; rfl, b1⟩

set_option maxRecDepth 1000000 in
set_option maxHeartbeats 2000000 in
theorem checkIn_impl (w : World) (v : Value) (s : ByteArray) (i n : Int) (p : List ByteArray) (r : ByteArray) (hG : Glob w) (h : Sl w v (ss p)) (hl : p.length ≤ 1000000000000) (hs : s.size ≤ 10000000000) (hz : ∀ s ∈ p, s.size ≤ 10000000000) :
    Calls Tryd.prog 13 #[.string s, .int .i64 i, .int .i64 n, v, .string r] w fun e w' => e = .returned (.bool (checkIn s i n p r)) ∧ Below w.heap.size w w' := by
  have hB0 : ∀ (u : Value) (t : TypeId), Below w.heap.size w (w.alloc (.cells #[u] t)) := fun u t => (Below.refl _ _).alloc (Nat.le_refl _) _
  by_cases hin : (1 ≤ n ∧ n ≤ 200) ∧ 0 ≤ i ∧ i ≤ n - 1
  · have HN : Hid (checkIn s i n p r = ((up (leafH s) i.toNat n.toNat p).2 && eq6 (up (leafH s) i.toNat n.toNat p).1 r)) := by show _ = _; unfold checkIn; rw [if_pos hin]
    obtain ⟨⟨i1, i2⟩, i3, i4⟩ := hin
    obtain ⟨a, rfl⟩ : ∃ a : Nat, i = (a : Int) := ⟨i.toNat, by omega⟩
    obtain ⟨m, rfl⟩ : ∃ m : Nat, n = (m : Int) := ⟨n.toNat, by omega⟩
    rw [Int.toNat_natCast, Int.toNat_natCast] at HN
    have d1 : ¬ (a : Int) < 0 := by omega
    have d2 : ¬ (m : Int) ≤ (a : Int) := by omega
    have d3 : ¬ (200 : Int) < (m : Int) := by omega
    have hB : ∀ (u : Value) (t : TypeId), Below w.heap.size w ((w.alloc (.cells #[.string s] 9)).alloc (.cells #[u] t)) := fun u t => (hB0 _ _).alloc (hB0 _ _).size _
    have q : ∀ (t : TypeId), _ := fun t => rise_any m m (Nat.le_refl _) (by omega) (by omega) ((w.alloc (.cells #[.string s] 9)).alloc (.cells #[.func (.func 34) #[] #[.pointer (some ⟨w.heap.size, 0, none⟩), .pointer (some ⟨w.heap.size + 1, 0, none⟩)]] t)) v w.heap.size (w.heap.size + 1) s a p (hG.later (hB _ t)) (h.later (hB _ t)) (by omega) hs hl hz
      (by rw [(Below.refl (w.alloc (.cells #[.string s] 9)).heap.size (w.alloc (.cells #[.string s] 9))).alloc (Nat.le_refl _) _ |>.cell (by simp)]; exact new_cellT _ _ _)
      (by simp)
    obtain ⟨x, hx⟩ : ∃ x, (up (leafH s) a m p).1 = x := ⟨_, rfl⟩
    obtain ⟨y, hy⟩ : ∃ x, (up (leafH s) a m p).2 = x := ⟨_, rfl⟩
    rw [hx, hy] at HN
    simp only [hx, hy] at q
    clear h hz i1 i2 i3 i4 hx hy
    go_enter Tryd.func13, Tryd.ntmps13
    go_wp2_with fail
    refine (q _).mono ?_
    rintro e w1 ⟨rfl, b1⟩
    have B1 : Below w.heap.size w w1 := (hB _ _).trans (b1.mono (hB _ _).size)
    clear q b1
    cases y
    · go_wp2
      go_ret
      exact ⟨by rw [HN.out]; rfl, B1⟩
    · go_wp2
      go_ret
      exact ⟨by rw [HN.out]; rfl, B1⟩
  · have HN : Hid (checkIn s i n p r = false) := by show _ = _; unfold checkIn; rw [if_neg hin]
    obtain ⟨ao, cap, rfl, hcap, _⟩ := h
    clear hz
    by_cases e1 : i < 0
    · clear hin
      go_enter Tryd.func13, Tryd.ntmps13
      go_wp2
      go_ret
      exact ⟨by rw [HN.out]; rfl, hB0 _ _⟩
    by_cases e2 : n ≤ i
    · clear hin
      go_enter Tryd.func13, Tryd.ntmps13
      go_wp2
      go_ret
      exact ⟨by rw [HN.out]; rfl, hB0 _ _⟩
    · have e3 : (200 : Int) < n := by omega
      clear hin
      go_enter Tryd.func13, Tryd.ntmps13
      go_wp2
      go_ret
      exact ⟨by rw [HN.out]; rfl, hB0 _ _⟩

end Go.Proofs.YthbonifpdpknnaaDoor.Tr
