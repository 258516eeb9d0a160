/- Chapter 6, the landed code: paths of beginnings, held against two roots. -/
import Derived.Test.YthbonifpdpknnaaDoorTsC
namespace Go.Proofs.YthbonifpdpknnaaDoor.Tr
open Go.RowKit Go.Proofs.YthbonifpdpknnaaDoor.Mem Go.Proofs.YthbonifpdpknnaaDoor.Laws Go.Proofs.YthbonifpdpknnaaDoor.Bytes Go.Proofs.YthbonifpdpknnaaDoor.Sha
set_option linter.unusedVariables false
set_option linter.unusedSimpArgs false

/-- what the landed code tells of a path of a beginning: where the path has as many as it must, the two roots -/
def Rs (z : ByteArray × ByteArray × Bool) (x y : ByteArray) (ok : Bool) : Prop := ok = z.2.2 ∧ (ok = true → x = z.1 ∧ y = z.2.1) ∧ x.size ≤ 10000000000 ∧ y.size ≤ 10000000000
theorem Rs.self {z : ByteArray × ByteArray × Bool} (h1 : z.1.size ≤ 10000000000) (h2 : z.2.1.size ≤ 10000000000) : Rs z z.1 z.2.1 z.2.2 := ⟨rfl, fun _ => ⟨rfl, rfl⟩, h1, h2⟩
theorem Rs.no {x y : ByteArray} (h1 : x.size ≤ 10000000000) (h2 : y.size ≤ 10000000000) : Rs (⟨#[]⟩, ⟨#[]⟩, false) x y false := ⟨rfl, fun h => (by cases h), h1, h2⟩
theorem Rs.low {z : ByteArray × ByteArray × Bool} {x y last : ByteArray} {ok : Bool} (h : Rs z x y ok) : Rs (z.1, nodeH z.2.1 last, z.2.2) x (nodeH y last) ok :=
  ⟨h.1, fun k => ⟨(h.2.1 k).1, by rw [(h.2.1 k).2]⟩, h.2.2.1, by rw [nodeH_size]; omega⟩
theorem Rs.high {z : ByteArray × ByteArray × Bool} {x y last : ByteArray} {ok : Bool} (h : Rs z x y ok) : Rs (nodeH last z.1, nodeH last z.2.1, z.2.2) (nodeH last x) (nodeH last y) ok :=
  ⟨h.1, fun k => ⟨by rw [(h.2.1 k).1], by rw [(h.2.1 k).2]⟩, by rw [nodeH_size]; omega, by rw [nodeH_size]; omega⟩

set_option maxRecDepth 1000000 in
set_option maxHeartbeats 2000000 in
theorem grown1_any : ∀ (N m : Nat), m ≤ N → m ≤ 200 → ∀ (w : World) (v : Value) (ga g : Nat) (n : Nat) (whole : Bool) (a : ByteArray) (p : List ByteArray), 1 ≤ n → n ≤ m → Glob w → Sl w v (ss p) → a.size ≤ 10000000000 → p.length ≤ 1000000000000 → (∀ t ∈ p, t.size ≤ 10000000000) →
    w.cell? ⟨ga, 0, none⟩ = some (.string a) → w.cell? ⟨g, 0, none⟩ = some (.func (.func 61) #[] #[.pointer (some ⟨ga, 0, none⟩), .pointer (some ⟨g, 0, none⟩)]) →
    Calls Tryd.prog 61 #[.int .i64 (n : Int), .int .i64 (m : Int), .bool whole, v, .pointer (some ⟨ga, 0, none⟩), .pointer (some ⟨g, 0, none⟩)] w fun e w' => ∃ x y ok, e = .returned (.tuple #[.string x, .string y, .bool ok]) ∧ Rs (grown n m whole a p) x y ok ∧ Below w.heap.size w w' := by
  intro N
  induction N with
  | zero => intro m hN h1 w v ga g n whole a p hn1 hn2; omega
  | succ N ih =>
    intro m hN hm w v ga g n whole a p hn1 hn2 hG h ha hpl hz hca hc
    by_cases hn : n = m
    · subst hn
      cases whole
      · rcases List.eq_nil_or_concat p with rfl | ⟨q, last, rfl⟩
        · have HN : Hid (grown n n false a [] = (⟨#[]⟩, ⟨#[]⟩, false)) := grown_not a (by simp)
          have q := cut_nil w v h
          clear ih hz hc hca
          go_enter Tryd.func61, Tryd.ntmps61
          go_wp2_with fail
          refine q.mono ?_
          rintro e w1 ⟨rfl, hw1⟩
          have hw1 := hw1.symm
          subst hw1
          go_wp2
          go_ret3
          exact ⟨_, _, _, rfl, by rw [HN.out]; exact Rs.no (Nat.zero_le _) (Nat.zero_le _), Below.refl _ _⟩
        · rw [List.concat_eq_append] at *
          have hpl' : q.length + 1 ≤ 1000000000000 := by rw [List.length_append] at hpl; exact hpl
          have qc := cut_any w v q last h (by omega)
          have hlz := hz last (by simp)
          have HR : Hid (Rs (grown n n false a (q ++ [last])) last last q.isEmpty) := by
            show Rs _ _ _ _
            cases q with
            | nil => rw [List.nil_append, grown_one]; exact ⟨rfl, fun _ => ⟨rfl, rfl⟩, hlz, hlz⟩
            | cons s q => rw [grown_not a (by simp)]; exact Rs.no hlz hlz
          have dE : (((ss q).length : Int) == 0) = q.isEmpty := by rw [ss_len]; cases q <;> simp <;> omega
          clear ih hz hc hca h hpl
          go_enter Tryd.func61, Tryd.ntmps61
          go_wp2_with fail
          refine qc.mono ?_
          rintro e w1 ⟨v1, rfl, s1, b1⟩
          obtain ⟨ao, cap, rfl, hcap, _⟩ := s1
          clear qc
          go_wp2
          go_ret3
          exact ⟨_, _, _, rfl, HR.out, b1⟩
      · have HN : Hid (grown n n true a p = (a, a, p.isEmpty)) := grown_whole n a p
        obtain ⟨ao, cap, rfl, hcap, _⟩ := h
        have dE : (((ss p).length : Int) == 0) = p.isEmpty := by rw [ss_len]; cases p <;> simp <;> omega
        clear ih hz hc
        go_enter Tryd.func61, Tryd.ntmps61
        go_wp2_with fail
        go_quiet (fail)
        go_wp2
        go_ret3
        exact ⟨_, _, _, rfl, by rw [HN.out]; exact Rs.self ha ha, below_drewN (Below.refl _ _) _⟩
    · have h2 : 2 ≤ m := by omega
      have dd : ((n : Int) == (m : Int)) = false := by rw [beq_eq_false_iff_ne]; omega
      rcases List.eq_nil_or_concat p with rfl | ⟨q, last, rfl⟩
      · have HN : Hid (grown n m whole a [] = (⟨#[]⟩, ⟨#[]⟩, false)) := grown_nil hn h2 whole a
        have q := cut_nil w v h
        clear ih hz hc hca
        go_enter Tryd.func61, Tryd.ntmps61
        go_wp2_with fail
        refine q.mono ?_
        rintro e w1 ⟨rfl, hw1⟩
        have hw1 := hw1.symm
        subst hw1
        go_wp2
        go_ret3
        exact ⟨_, _, _, rfl, by rw [HN.out]; exact Rs.no (Nat.zero_le _) (Nat.zero_le _), Below.refl _ _⟩
      · rw [List.concat_eq_append] at *
        have hpl' : q.length + 1 ≤ 1000000000000 := by rw [List.length_append] at hpl; exact hpl
        have qc := cut_any w v q last h (by omega)
        have hk := half_ok h2
        have hp := half_pos h2
        have HL : Hid (n ≤ half m → grown n m whole a (q ++ [last]) = ((grown n (half m) whole a q).1, nodeH (grown n (half m) whole a q).2.1 last, (grown n (half m) whole a q).2.2)) := fun hj => grown_low hn h2 hj whole a last q
        have HH : Hid (¬ n ≤ half m → grown n m whole a (q ++ [last]) = (nodeH last (grown (n - half m) (m - half m) false a q).1, nodeH last (grown (n - half m) (m - half m) false a q).2.1, (grown (n - half m) (m - half m) false a q).2.2)) := fun hj => grown_high hn h2 hj whole a last q
        have q0 : ∀ W, _ := fun W => half_impl W m h2 (by omega)
        obtain ⟨k, hkk⟩ : ∃ k, half m = k := ⟨_, rfl⟩
        simp only [hkk] at hk hp HL HH q0
        obtain ⟨_, hk1, hk2⟩ := hk
        have hlz := hz last (by simp)
        have hqz : ∀ t ∈ q, t.size ≤ 10000000000 := fun t ht => hz t (by simp [ht])
        clear hz hpl h
        by_cases hik : n ≤ k
        · have HP : Hid (∀ x y ok, Rs (grown n k whole a q) x y ok → Rs (grown n m whole a (q ++ [last])) x (nodeH y last) ok) := by
            intro x y ok hr
            rw [HL.out hik]
            exact hr.low
          have q1 : ∀ W v1, Below w.heap.size w W → Sl w v1 (ss q) → _ := fun W v1 hW s1 => ih k (by omega) (by omega) W v1 ga g n whole a q hn1 hik (hG.later hW) (s1.later hW) ha (by omega) hqz (keepB hca hW) (keepB hc hW)
          have q2 : ∀ W, Below w.heap.size w W → ∀ y : ByteArray, y.size ≤ 10000000000 → _ := fun W hW y hy => node_impl W y last (hG.later hW) (by omega) (by omega)
          have hik' : (n : Int) ≤ (k : Int) := by omega
          clear ih HL HH hik hqz hkk hn
          go_enter Tryd.func61, Tryd.ntmps61
          go_wp2_with fail
          refine qc.mono ?_
          rintro e w1 ⟨v1, rfl, s1, b1⟩
          have q0 := q0 w1
          have q1 := q1 w1 v1 b1 s1
          have hc1 := keepB hc b1
          clear s1 hc qc
          go_wp2_with fail
          refine q0.mono ?_
          rintro e w2 ⟨rfl, hw2⟩
          have hw2 := hw2.symm
          subst hw2
          go_wp2_with fail
          refine q1.mono ?_
          rintro e w2 ⟨x, y, ok, rfl, hr, b2⟩
          have B2 : Below w.heap.size w w2 := b1.trans (b2.mono b1.size)
          clear hc1 q1 b1 b2
          go_wp2_with fail
          refine (q2 w2 B2 _ hr.2.2.2).mono ?_
          rintro e w3 ⟨rfl, b3⟩
          have B3 : Below w.heap.size w w3 := B2.trans (b3.mono B2.size)
          clear q2 b3
          go_wp2
          go_ret3
          exact ⟨_, _, _, rfl, HP.out x y ok hr, B3⟩
        · have HP : Hid (∀ x y ok, Rs (grown (n - k) (m - k) false a q) x y ok → Rs (grown n m whole a (q ++ [last])) (nodeH last x) (nodeH last y) ok) := by
            intro x y ok hr
            rw [HH.out hik]
            exact hr.high
          have q1 : ∀ W v1, Below w.heap.size w W → Sl w v1 (ss q) → _ := fun W v1 hW s1 => ih (m - k) (by omega) (by omega) W v1 ga g (n - k) false a q (by omega) (by omega) (hG.later hW) (s1.later hW) ha (by omega) hqz (keepB hca hW) (keepB hc hW)
          have q2 : ∀ W, Below w.heap.size w W → ∀ y : ByteArray, y.size ≤ 10000000000 → _ := fun W hW y hy => node_impl W last y (hG.later hW) (by omega) (by omega)
          have hik' : ¬ (n : Int) ≤ (k : Int) := by omega
          have w1' : IntKind.i64.wrap ((n : Int) - (k : Int)) = ((n - k : Nat) : Int) := by rw [IntKind.wrap_i64]; omega
          have w2' : IntKind.i64.wrap ((m : Int) - (k : Int)) = ((m - k : Nat) : Int) := by rw [IntKind.wrap_i64]; omega
          clear ih HL HH hik hqz hkk hn
          go_enter Tryd.func61, Tryd.ntmps61
          go_wp2_with fail
          refine qc.mono ?_
          rintro e w1 ⟨v1, rfl, s1, b1⟩
          have q0 := q0 w1
          have q1 := q1 w1 v1 b1 s1
          have hc1 := keepB hc b1
          clear s1 hc qc
          go_wp2_with fail
          refine q0.mono ?_
          rintro e w2 ⟨rfl, hw2⟩
          have hw2 := hw2.symm
          subst hw2
          go_wp2_with fail
          refine q1.mono ?_
          rintro e w2 ⟨x, y, ok, rfl, hr, b2⟩
          have B2 : Below w.heap.size w w2 := b1.trans (b2.mono b1.size)
          clear hc1 q1 b1 b2
          go_wp2_with fail
          refine (q2 w2 B2 _ hr.2.2.1).mono ?_
          rintro e w4 ⟨rfl, b4⟩
          have B4 : Below w.heap.size w w4 := B2.trans (b4.mono B2.size)
          clear b4
          go_wp2_with fail
          refine (q2 w4 B4 _ hr.2.2.2).mono ?_
          rintro e w3 ⟨rfl, b3⟩
          have B3 : Below w.heap.size w w3 := B4.trans (b3.mono B4.size)
          clear q2 b3
          go_wp2
          go_ret3
          exact ⟨_, _, _, rfl, HP.out x y ok hr, B3⟩

set_option maxRecDepth 1000000 in
set_option maxHeartbeats 2000000 in
theorem grownRoots_any (w : World) (v : Value) (n m : Nat) (a : ByteArray) (p : List ByteArray) (hn1 : 1 ≤ n) (hn2 : n ≤ m) (hm : m ≤ 200) (hG : Glob w) (h : Sl w v (ss p)) (hl : p.length ≤ 1000000000000) (ha : a.size ≤ 10000000000) (hz : ∀ s ∈ p, s.size ≤ 10000000000) :
    Calls Tryd.prog 37 #[.int .i64 (n : Int), .int .i64 (m : Int), .string a, v] w fun e w' => ∃ x y ok, e = .returned (.tuple #[.string x, .string y, .bool ok]) ∧ Rs (grown n m true a p) x y ok ∧ Below w.heap.size w w' := by
  have hB0 : ∀ (u : Value) (t : TypeId), Below w.heap.size w (w.alloc (.cells #[u] t)) := fun u t => (Below.refl _ _).alloc (Nat.le_refl _) _
  have hB : ∀ (u : Value) (t : TypeId), Below w.heap.size w ((w.alloc (.cells #[.string a] 9)).alloc (.cells #[u] t)) := fun u t => (hB0 _ _).alloc (hB0 _ _).size _
  have q : ∀ (t : TypeId), _ := fun t => grown1_any m m (Nat.le_refl _) hm ((w.alloc (.cells #[.string a] 9)).alloc (.cells #[.func (.func 61) #[] #[.pointer (some ⟨w.heap.size, 0, none⟩), .pointer (some ⟨w.heap.size + 1, 0, none⟩)]] t)) v w.heap.size (w.heap.size + 1) n true a p hn1 hn2 (hG.later (hB _ t)) (h.later (hB _ t)) ha hl hz
    (by rw [(Below.refl (w.alloc (.cells #[.string a] 9)).heap.size (w.alloc (.cells #[.string a] 9))).alloc (Nat.le_refl _) _ |>.cell (by simp)]; exact new_cellT _ _ _)
    (by simp)
  clear h hz
  go_enter Tryd.func37, Tryd.ntmps37
  go_wp2_with fail
  refine (q _).mono ?_
  rintro e w1 ⟨x, y, ok, rfl, hr, b1⟩
  have B1 : Below w.heap.size w w1 := (hB _ _).trans (b1.mono (hB _ _).size)
  clear q b1
  go_wp2
  go_ret3
  exact ⟨_, _, _, rfl, hr, B1⟩

set_option maxRecDepth 1000000 in
set_option maxHeartbeats 2000000 in
theorem checkGrow_impl (w : World) (v : Value) (n m : Int) (a b : ByteArray) (p : List ByteArray) (hG : Glob w) (h : Sl w v (ss p)) (hl : p.length ≤ 1000000000000) (ha : a.size ≤ 10000000000) (hz : ∀ s ∈ p, s.size ≤ 10000000000) :
    Calls Tryd.prog 14 #[.int .i64 n, .int .i64 m, .string a, .string b, v] w fun e w' => e = .returned (.bool (checkGrow n m a b p)) ∧ Below w.heap.size w w' := by
  by_cases e1 : n < 0
  · have HN : Hid (checkGrow n m a b p = false) := by
      show _ = _
      unfold checkGrow
      split
      · rw [if_neg (by omega), if_neg (by omega)]
      · rfl
    obtain ⟨ao, cap, rfl, hcap, _⟩ := h
    clear hz
    go_enter Tryd.func14, Tryd.ntmps14
    go_wp2
    go_ret
    exact ⟨by rw [HN.out]; rfl, Below.refl _ _⟩
  by_cases e2 : m < n
  · have HN : Hid (checkGrow n m a b p = false) := by
      show _ = _
      unfold checkGrow
      split
      · rw [if_neg (by omega), if_neg (by omega)]
      · rfl
    obtain ⟨ao, cap, rfl, hcap, _⟩ := h
    clear hz
    go_enter Tryd.func14, Tryd.ntmps14
    go_wp2
    go_ret
    exact ⟨by rw [HN.out]; rfl, Below.refl _ _⟩
  by_cases e3 : 200 < m
  · have HN : Hid (checkGrow n m a b p = false) := by
      show _ = _
      unfold checkGrow
      rw [if_neg (by omega)]
    obtain ⟨ao, cap, rfl, hcap, _⟩ := h
    clear hz
    go_enter Tryd.func14, Tryd.ntmps14
    go_wp2
    go_ret
    exact ⟨by rw [HN.out]; rfl, Below.refl _ _⟩
  by_cases e4 : n = m
  · subst e4
    have HN : Hid (checkGrow n n a b p = ((a.toList == b.toList) && p.isEmpty)) := by
      show _ = _
      unfold checkGrow eq6
      rw [if_pos (by omega), if_pos rfl]
    obtain ⟨ao, cap, rfl, hcap, _⟩ := h
    have dE : (((ss p).length : Int) == 0) = p.isEmpty := by rw [ss_len]; cases p <;> simp <;> omega
    clear hz
    obtain ⟨t, ht⟩ : ∃ t, (a.toList == b.toList) = t := ⟨_, rfl⟩
    rw [ht] at HN
    cases t
    · go_enter Tryd.func14, Tryd.ntmps14
      go_wp2
      go_ret
      exact ⟨by rw [HN.out]; rfl, Below.refl _ _⟩
    · go_enter Tryd.func14, Tryd.ntmps14
      go_wp2
      go_ret
      exact ⟨by rw [HN.out]; rfl, Below.refl _ _⟩
  have d4 : (n == m) = false := by rw [beq_eq_false_iff_ne]; exact e4
  by_cases e5 : n = 0
  · subst e5
    have HN : Hid (checkGrow 0 m a b p = false) := by
      show _ = _
      unfold checkGrow
      rw [if_pos (by omega), if_neg e4, if_neg (by omega)]
    obtain ⟨ao, cap, rfl, hcap, _⟩ := h
    clear hz
    go_enter Tryd.func14, Tryd.ntmps14
    go_wp2
    go_ret
    exact ⟨by rw [HN.out]; rfl, Below.refl _ _⟩
  have d5 : (n == 0) = false := by rw [beq_eq_false_iff_ne]; exact e5
  have HN : Hid (∀ x y ok, Rs (grown n.toNat m.toNat true a p) x y ok → checkGrow n m a b p = (ok && (x.toList == a.toList) && (y.toList == b.toList))) := by
    intro x y ok hr
    unfold checkGrow eq6
    rw [if_pos (by omega), if_neg e4, if_pos (by omega), ← hr.1]
    cases ok with
    | false => rfl
    | true => rw [(hr.2.1 rfl).1, (hr.2.1 rfl).2]
  obtain ⟨k, rfl⟩ : ∃ k : Nat, n = (k : Int) := ⟨n.toNat, by omega⟩
  obtain ⟨r, rfl⟩ : ∃ r : Nat, m = (r : Int) := ⟨m.toNat, by omega⟩
  rw [Int.toNat_natCast, Int.toNat_natCast] at HN
  have q := grownRoots_any w v k r a p (by omega) (by omega) (by omega) hG h hl ha hz
  clear h hz e4 e5
  go_enter Tryd.func14, Tryd.ntmps14
  go_wp2_with fail
  refine q.mono ?_
  rintro e w1 ⟨x, y, ok, rfl, hr, b1⟩
  have HE : Hid (checkGrow (k : Int) (r : Int) a b p = (ok && (x.toList == a.toList) && (y.toList == b.toList))) := HN.out x y ok hr
  clear q hr HN
  obtain ⟨s, hs⟩ : ∃ s, (x.toList == a.toList) = s := ⟨_, rfl⟩
  rw [hs] at HE
  cases ok
  · go_wp2
    go_ret
    exact ⟨by rw [HE.out]; rfl, b1⟩
  · cases s
    · go_wp2
      go_ret
      exact ⟨by rw [HE.out]; rfl, b1⟩
    · go_wp2
      go_ret
      exact ⟨by rw [HE.out]; rfl, b1⟩

end Go.Proofs.YthbonifpdpknnaaDoor.Tr
