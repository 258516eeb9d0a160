/- Chapter 6, the specification's side: the exported functions. -/
import Derived.Test.YthbonifpdpknnabDoorTr7
namespace Go.Proofs.YthbonifpdpknnabDoor.Tr
open Go.RowKit Go.Proofs.YthbonifpdpknnabDoor.Mem Go.Proofs.YthbonifpdpknnabDoor.Laws Go.Proofs.YthbonifpdpknnabDoor.Bytes Go.Proofs.YthbonifpdpknnabDoor.Sha
set_option linter.unusedVariables false
set_option linter.unusedSimpArgs false

/-- texts held against each other -/
def eq6 (a b : ByteArray) : Bool := a.toList == b.toList
def rootOf (l : List ByteArray) : ByteArray := if l.length ≤ 200 then root l else ⟨#[]⟩
def inPath (l : List ByteArray) (i : Int) : List ByteArray := if l.length ≤ 200 ∧ 0 ≤ i ∧ i ≤ (l.length : Int) - 1 then path l i.toNat else []
def checkIn (s : ByteArray) (i n : Int) (p : List ByteArray) (r : ByteArray) : Bool :=
  if (1 ≤ n ∧ n ≤ 200) ∧ 0 ≤ i ∧ i ≤ n - 1 then (up (leafH s) i.toNat n.toNat p).2 && eq6 (up (leafH s) i.toNat n.toNat p).1 r else false
def growPath (l : List ByteArray) (n : Int) : List ByteArray := if l.length ≤ 200 ∧ 1 ≤ n ∧ n ≤ (l.length : Int) - 1 then grow l n.toNat true else []
def checkGrow (n m : Int) (a b : ByteArray) (p : List ByteArray) : Bool :=
  if 0 ≤ m ∧ m ≤ 200 then
    (if n = m then eq6 a b && p.isEmpty
     else if 1 ≤ n ∧ n ≤ m - 1 then (grown n.toNat m.toNat true a p).2.2 && eq6 (grown n.toNat m.toNat true a p).1 a && eq6 (grown n.toNat m.toNat true a p).2.1 b else false)
  else false

set_option maxRecDepth 1000000 in
theorem in6 (w : World) (n a b : Int) : Calls Tryd.prog 33 #[.int .i64 n, .int .i64 a, .int .i64 b] w fun e w' => e = .returned (.bool (decide (a ≤ n ∧ n ≤ b))) ∧ w = w' := by
  obtain ⟨t, ht⟩ : ∃ t, decide (a ≤ n ∧ n ≤ b) = t := ⟨_, rfl⟩
  rw [ht]
  by_cases h1 : a ≤ n
  · by_cases h2 : n ≤ b
    · have HD : Hid (t = true) := by show _ = _; rw [← ht]; simp [h1, h2]
      clear ht
      go_enter Tryd.func33, Tryd.ntmps33
      go_wp2
      go_ret
      exact ⟨by rw [HD.out]; rfl, rfl⟩
    · have HD : Hid (t = false) := by show _ = _; rw [← ht]; simp [h2]
      clear ht
      go_enter Tryd.func33, Tryd.ntmps33
      go_wp2
      go_ret
      exact ⟨by rw [HD.out]; rfl, rfl⟩
  · have HD : Hid (t = false) := by show _ = _; rw [← ht]; simp [h1]
    clear ht
    go_enter Tryd.func33, Tryd.ntmps33
    go_wp2
    go_ret
    exact ⟨by rw [HD.out]; rfl, rfl⟩
theorem in6t (w : World) {n a b : Int} (h : a ≤ n ∧ n ≤ b) : Calls Tryd.prog 33 #[.int .i64 n, .int .i64 a, .int .i64 b] w fun e w' => e = .returned (.bool true) ∧ w = w' := by
  have q := in6 w n a b
  rwa [decide_eq_true h] at q
theorem in6f (w : World) {n a b : Int} (h : ¬ (a ≤ n ∧ n ≤ b)) : Calls Tryd.prog 33 #[.int .i64 n, .int .i64 a, .int .i64 b] w fun e w' => e = .returned (.bool false) ∧ w = w' := by
  have q := in6 w n a b
  rwa [decide_eq_false h] at q

set_option maxRecDepth 1000000 in
set_option maxHeartbeats 1000000 in
theorem rootOf_spec (w : World) (v : Value) (l : List ByteArray) (h : Sl w v (ss l)) (hl : l.length ≤ 1000000000000) (hz : ∀ s ∈ l, s.size ≤ 10000000000) :
    Calls Tryd.prog 12 #[v] w fun e w' => e = .returned (.string (rootOf l)) ∧ Below w.heap.size w w' := by
  by_cases h2 : l.length ≤ 200
  · have q := root_any l.length l (Nat.le_refl _) w v h (by omega) hz
    have HN : Hid (rootOf l = root l) := by show _ = _; unfold rootOf; rw [if_pos h2]
    obtain ⟨x, hx⟩ : ∃ x, root l = x := ⟨_, rfl⟩
    rw [hx] at q HN
    obtain ⟨ao, cap, rfl, hcap, _⟩ := h
    have d2 : ¬ (200 : Int) < (l.length : Int) := by omega
    rw [ss_len] at q ⊢
    clear hx hz
    go_enter Tryd.func12, Tryd.ntmps12
    go_wp2_with fail
    refine q.mono ?_
    rintro e w1 ⟨rfl, b1⟩
    go_wp2
    go_ret
    exact ⟨by rw [HN.out]; rfl, b1⟩
  · have HN : Hid (rootOf l = ⟨#[]⟩) := by show _ = _; unfold rootOf; rw [if_neg h2]
    obtain ⟨ao, cap, rfl, hcap, _⟩ := h
    have d2 : (200 : Int) < (l.length : Int) := by omega
    rw [ss_len]
    go_enter Tryd.func12, Tryd.ntmps12
    go_wp2
    go_ret
    exact ⟨by rw [HN.out]; rfl, Below.refl _ _⟩

set_option maxRecDepth 1000000 in
set_option maxHeartbeats 2000000 in
theorem inPath_spec (w : World) (v : Value) (l : List ByteArray) (i : Int) (h : Sl w v (ss l)) (hl : l.length ≤ 1000000000000) (hz : ∀ s ∈ l, s.size ≤ 10000000000) :
    Calls Tryd.prog 16 #[v, .int .i64 i] w fun e w' => ∃ v', e = .returned v' ∧ Own w' w.heap.size w'.heap.size 9 v' (ss (inPath l i)) ∧ Below w.heap.size w w' := by
  have HS : Hid (Sl w v (ss l)) := h
  obtain ⟨ao, cap, rfl, hcap, _⟩ := h
  have HO : Hid (Own (w.alloc (.cells #[] 9)) w.heap.size (w.alloc (.cells #[] 9)).heap.size 9 (.slice (some ⟨w.heap.size, 0, none⟩) 0 0) (ss [])) := emptyT w w.heap.size (Nat.le_refl _)
  have HB : Hid (Below w.heap.size w (w.alloc (.cells #[] 9))) := (Below.refl _ _).alloc (Nat.le_refl _) _
  rw [ss_len] at HS ⊢
  by_cases h2 : l.length ≤ 200
  · have d2 : ¬ (200 : Int) < (l.length : Int) := by omega
    have hwr : IntKind.i64.wrap ((l.length : Int) - 1) = (l.length : Int) - 1 := by rw [IntKind.wrap_i64]; omega
    by_cases hi : 0 ≤ i ∧ i ≤ (l.length : Int) - 1
    · obtain ⟨j, rfl⟩ : ∃ j : Nat, i = (j : Int) := ⟨i.toNat, by omega⟩
      have HN : Hid (inPath l (j : Int) = path l j) := by show _ = _; unfold inPath; rw [if_pos ⟨h2, hi⟩]; rfl
      have q0 := in6t w hi
      have q := path_any l.length l (Nat.le_refl _) w _ j HS.out (by omega) (by omega) hz
      obtain ⟨P, hP⟩ : ∃ x, path l j = x := ⟨_, rfl⟩
      rw [hP] at q HN
      clear hP hz hi HO HB HS
      go_enter Tryd.func16, Tryd.ntmps16
      go_wp2_with fail
      refine q0.mono ?_
      rintro e w0 ⟨rfl, rfl⟩
      go_wp2_with fail
      refine q.mono ?_
      rintro e w1 ⟨v1, rfl, o1, b1⟩
      go_wp2
      go_ret
      exact ⟨v1, rfl, by rw [HN.out]; exact o1, b1⟩
    · have HN : Hid (inPath l i = []) := by show _ = _; unfold inPath; rw [if_neg (fun hc => hi hc.2)]
      have q0 := in6f w hi
      clear hz hi HS
      go_enter Tryd.func16, Tryd.ntmps16
      go_wp2_with fail
      refine q0.mono ?_
      rintro e w0 ⟨rfl, rfl⟩
      go_wp2
      go_ret
      exact ⟨_, rfl, by rw [HN.out]; exact HO.out, HB.out⟩
  · have d2 : (200 : Int) < (l.length : Int) := by omega
    have HN : Hid (inPath l i = []) := by show _ = _; unfold inPath; rw [if_neg (fun hc => h2 hc.1)]
    clear hz HS
    go_enter Tryd.func16, Tryd.ntmps16
    go_wp2
    go_ret
    exact ⟨_, rfl, by rw [HN.out]; exact HO.out, HB.out⟩

set_option maxRecDepth 1000000 in
set_option maxHeartbeats 2000000 in
theorem growPath_spec (w : World) (v : Value) (l : List ByteArray) (n : Int) (h : Sl w v (ss l)) (hl : l.length ≤ 1000000000000) (hz : ∀ s ∈ l, s.size ≤ 10000000000) :
    Calls Tryd.prog 22 #[v, .int .i64 n] w fun e w' => ∃ v', e = .returned v' ∧ Own w' w.heap.size w'.heap.size 9 v' (ss (growPath l n)) ∧ Below w.heap.size w w' := by
  have HS : Hid (Sl w v (ss l)) := h
  obtain ⟨ao, cap, rfl, hcap, _⟩ := h
  have HO : Hid (Own (w.alloc (.cells #[] 9)) w.heap.size (w.alloc (.cells #[] 9)).heap.size 9 (.slice (some ⟨w.heap.size, 0, none⟩) 0 0) (ss [])) := emptyT w w.heap.size (Nat.le_refl _)
  have HB : Hid (Below w.heap.size w (w.alloc (.cells #[] 9))) := (Below.refl _ _).alloc (Nat.le_refl _) _
  rw [ss_len] at HS ⊢
  by_cases h2 : l.length ≤ 200
  · have d2 : ¬ (200 : Int) < (l.length : Int) := by omega
    have hwr : IntKind.i64.wrap ((l.length : Int) - 1) = (l.length : Int) - 1 := by rw [IntKind.wrap_i64]; omega
    by_cases hi : 1 ≤ n ∧ n ≤ (l.length : Int) - 1
    · obtain ⟨j, rfl⟩ : ∃ j : Nat, n = (j : Int) := ⟨n.toNat, by omega⟩
      have HN : Hid (growPath l (j : Int) = grow l j true) := by show _ = _; unfold growPath; rw [if_pos ⟨h2, hi⟩]; rfl
      have q0 := in6t w hi
      have q := grow_any l.length l (Nat.le_refl _) w _ j true HS.out (by omega) (by omega) (by omega) hz
      obtain ⟨P, hP⟩ : ∃ x, grow l j true = x := ⟨_, rfl⟩
      rw [hP] at q HN
      clear hP hz hi HO HB HS
      go_enter Tryd.func22, Tryd.ntmps22
      go_wp2_with fail
      refine q0.mono ?_
      rintro e w0 ⟨rfl, rfl⟩
      go_wp2_with fail
      refine q.mono ?_
      rintro e w1 ⟨v1, rfl, o1, b1⟩
      go_wp2
      go_ret
      exact ⟨v1, rfl, by rw [HN.out]; exact o1, b1⟩
    · have HN : Hid (growPath l n = []) := by show _ = _; unfold growPath; rw [if_neg (fun hc => hi hc.2)]
      have q0 := in6f w hi
      clear hz hi HS
      go_enter Tryd.func22, Tryd.ntmps22
      go_wp2_with fail
      refine q0.mono ?_
      rintro e w0 ⟨rfl, rfl⟩
      go_wp2
      go_ret
      exact ⟨_, rfl, by rw [HN.out]; exact HO.out, HB.out⟩
  · have d2 : (200 : Int) < (l.length : Int) := by omega
    have HN : Hid (growPath l n = []) := by show _ = _; unfold growPath; rw [if_neg (fun hc => h2 hc.1)]
    clear hz HS
    go_enter Tryd.func22, Tryd.ntmps22
    go_wp2
    go_ret
    exact ⟨_, rfl, by rw [HN.out]; exact HO.out, HB.out⟩

set_option maxRecDepth 1000000 in
set_option maxHeartbeats 2000000 in
theorem checkIn_spec (w : World) (v : Value) (s : ByteArray) (i n : Int) (p : List ByteArray) (r : ByteArray) (h : Sl w v (ss p)) (hl : p.length ≤ 1000000000000) (hs : s.size ≤ 10000000000) (hz : ∀ s ∈ p, s.size ≤ 10000000000) :
    Calls Tryd.prog 20 #[.string s, .int .i64 i, .int .i64 n, v, .string r] w fun e w' => e = .returned (.bool (checkIn s i n p r)) ∧ Below w.heap.size w w' := by
  by_cases hn : 1 ≤ n ∧ n ≤ 200
  · have q0 := in6t w hn
    have hwr : IntKind.i64.wrap (n - 1) = n - 1 := by rw [IntKind.wrap_i64]; omega
    by_cases hi : 0 ≤ i ∧ i ≤ n - 1
    · have q0' := in6t w hi
      obtain ⟨j, rfl⟩ : ∃ j : Nat, i = (j : Int) := ⟨i.toNat, by omega⟩
      obtain ⟨m, rfl⟩ : ∃ j : Nat, n = (j : Int) := ⟨n.toNat, by omega⟩
      have HN : Hid (checkIn s (j : Int) (m : Int) p r = ((up (leafH s) j m p).2 && eq6 (up (leafH s) j m p).1 r)) := by show _ = _; unfold checkIn; rw [if_pos ⟨hn, hi⟩]; rfl
      have q1 := leaf_spec w s (by omega)
      have q2 : ∀ W, Below w.heap.size w W → _ := fun W hW => up_any m m (Nat.le_refl _) W v (leafH s) j p (h.later hW) (by omega) (by omega) (by rw [leafH_size]; omega) hl hz
      obtain ⟨f, hf⟩ : ∃ x, leafH s = x := ⟨_, rfl⟩
      simp only [hf] at q1 q2 HN
      obtain ⟨x, hx⟩ : ∃ x, (up f j m p).1 = x := ⟨_, rfl⟩
      obtain ⟨y, hy⟩ : ∃ x, (up f j m p).2 = x := ⟨_, rfl⟩
      simp only [hx, hy] at q2 HN
      obtain ⟨t, ht⟩ : ∃ t, (x.toList == r.toList) = t := ⟨_, rfl⟩
      have HN2 : Hid (checkIn s (j : Int) (m : Int) p r = (y && t)) := by show _ = _; rw [HN.out, ← ht]; rfl
      clear hf hx hy hz hi hn h HN
      go_enter Tryd.func20, Tryd.ntmps20
      go_wp2_with fail
      refine q0.mono ?_
      rintro e w0 ⟨rfl, rfl⟩
      go_wp2_with fail
      refine q0'.mono ?_
      rintro e w0 ⟨rfl, rfl⟩
      go_wp2_with fail
      refine q1.mono ?_
      rintro e w1 ⟨rfl, b1⟩
      go_wp2_with fail
      refine (q2 _ b1).mono ?_
      rintro e w2 ⟨rfl, b2⟩
      have B2 : Below w.heap.size w w2 := b1.trans (b2.mono b1.size)
      clear q1 q2 q0 q0' b1 b2
      cases y
      · have HF : Hid (checkIn s (j : Int) (m : Int) p r = false) := HN2.out
        clear HN2
        go_wp2
        go_ret
        exact ⟨by rw [HF.out]; rfl, B2⟩
      · have HF : Hid (checkIn s (j : Int) (m : Int) p r = t) := HN2.out
        clear HN2
        go_wp2
        go_ret
        exact ⟨by rw [HF.out]; rfl, B2⟩
    · have HN : Hid (checkIn s i n p r = false) := by show _ = _; unfold checkIn; rw [if_neg (fun hc => hi hc.2)]
      have q0' := in6f w hi
      clear hi hz
      go_enter Tryd.func20, Tryd.ntmps20
      go_wp2_with fail
      refine q0.mono ?_
      rintro e w0 ⟨rfl, rfl⟩
      go_wp2_with fail
      refine q0'.mono ?_
      rintro e w0 ⟨rfl, rfl⟩
      go_wp2
      go_ret
      exact ⟨by rw [HN.out]; rfl, Below.refl _ _⟩
  · have HN : Hid (checkIn s i n p r = false) := by show _ = _; unfold checkIn; rw [if_neg (fun hc => hn hc.1)]
    have q0 := in6f w hn
    clear hn hz
    go_enter Tryd.func20, Tryd.ntmps20
    go_wp2_with fail
    refine q0.mono ?_
    rintro e w0 ⟨rfl, rfl⟩
    go_wp2
    go_ret
    exact ⟨by rw [HN.out]; rfl, Below.refl _ _⟩

set_option maxRecDepth 1000000 in
set_option maxHeartbeats 2000000 in
theorem checkGrow_spec (w : World) (v : Value) (n m : Int) (a b : ByteArray) (p : List ByteArray) (h : Sl w v (ss p)) (hl : p.length ≤ 1000000000000) (ha : a.size ≤ 10000000000) (hz : ∀ s ∈ p, s.size ≤ 10000000000) :
    Calls Tryd.prog 24 #[.int .i64 n, .int .i64 m, .string a, .string b, v] w fun e w' => e = .returned (.bool (checkGrow n m a b p)) ∧ Below w.heap.size w w' := by
  by_cases hm : 0 ≤ m ∧ m ≤ 200
  · have q0 := in6t w hm
    by_cases he : n = m
    · obtain ⟨ao, cap, rfl, hcap, _⟩ := h
      obtain ⟨t, ht⟩ : ∃ t, (a.toList == b.toList) = t := ⟨_, rfl⟩
      have dE : (((ss p).length : Int) == 0) = p.isEmpty := by rw [ss_len]; cases p <;> simp <;> omega
      obtain ⟨u, hu⟩ : ∃ t, p.isEmpty = t := ⟨_, rfl⟩
      rw [hu] at dE
      have HN : Hid (checkGrow n m a b p = (t && u)) := by show _ = _; unfold checkGrow; rw [if_pos hm, if_pos he, ← ht, ← hu]; rfl
      have dd : (n == m) = true := by rw [beq_iff_eq]; exact he
      clear hz hm he hu
      cases t
      · have HF : Hid (checkGrow n m a b p = false) := HN.out
        clear HN
        go_enter Tryd.func24, Tryd.ntmps24
        go_wp2_with fail
        refine q0.mono ?_
        rintro e w0 ⟨rfl, rfl⟩
        go_wp2
        go_ret
        exact ⟨by rw [HF.out]; rfl, Below.refl _ _⟩
      · have HF : Hid (checkGrow n m a b p = u) := HN.out
        clear HN
        go_enter Tryd.func24, Tryd.ntmps24
        go_wp2_with fail
        refine q0.mono ?_
        rintro e w0 ⟨rfl, rfl⟩
        go_wp2
        go_ret
        exact ⟨by rw [HF.out]; rfl, Below.refl _ _⟩
    · have dd : (n == m) = false := by rw [beq_eq_false_iff_ne]; exact he
      have hwr : IntKind.i64.wrap (m - 1) = m - 1 := by rw [IntKind.wrap_i64]; omega
      by_cases hn : 1 ≤ n ∧ n ≤ m - 1
      · have q0' := in6t w hn
        obtain ⟨j, rfl⟩ : ∃ j : Nat, n = (j : Int) := ⟨n.toNat, by omega⟩
        obtain ⟨k, rfl⟩ : ∃ j : Nat, m = (j : Int) := ⟨m.toNat, by omega⟩
        have HN : Hid (checkGrow (j : Int) (k : Int) a b p = ((grown j k true a p).2.2 && eq6 (grown j k true a p).1 a && eq6 (grown j k true a p).2.1 b)) := by show _ = _; unfold checkGrow; rw [if_pos hm, if_neg he, if_pos hn]; rfl
        have q2 := grown_any k k (Nat.le_refl _) w v j true a p h (by omega) (by omega) (by omega) ha hl hz
        obtain ⟨x, hx⟩ : ∃ x, (grown j k true a p).1 = x := ⟨_, rfl⟩
        obtain ⟨y, hy⟩ : ∃ x, (grown j k true a p).2.1 = x := ⟨_, rfl⟩
        obtain ⟨z, hzz⟩ : ∃ x, (grown j k true a p).2.2 = x := ⟨_, rfl⟩
        simp only [hx, hy, hzz] at q2 HN
        obtain ⟨t, ht⟩ : ∃ t, (x.toList == a.toList) = t := ⟨_, rfl⟩
        obtain ⟨u, hu⟩ : ∃ t, (y.toList == b.toList) = t := ⟨_, rfl⟩
        have HN2 : Hid (checkGrow (j : Int) (k : Int) a b p = (z && t && u)) := by show _ = _; rw [HN.out, ← ht, ← hu]; rfl
        clear hx hy hzz hz hm hn he h HN
        go_enter Tryd.func24, Tryd.ntmps24
        go_wp2_with fail
        refine q0.mono ?_
        rintro e w0 ⟨rfl, rfl⟩
        go_wp2_with fail
        refine q0'.mono ?_
        rintro e w0 ⟨rfl, rfl⟩
        go_wp2_with fail
        refine q2.mono ?_
        rintro e w2 ⟨rfl, b2⟩
        clear q2 q0 q0'
        cases z
        · have HF : Hid (checkGrow (j : Int) (k : Int) a b p = false) := HN2.out
          clear HN2
          go_wp2
          go_ret
          exact ⟨by rw [HF.out]; rfl, b2⟩
        · cases t
          · have HF : Hid (checkGrow (j : Int) (k : Int) a b p = false) := HN2.out
            clear HN2
            go_wp2
            go_ret
            exact ⟨by rw [HF.out]; rfl, b2⟩
          · have HF : Hid (checkGrow (j : Int) (k : Int) a b p = u) := HN2.out
            clear HN2
            go_wp2
            go_ret
            exact ⟨by rw [HF.out]; rfl, b2⟩
      · have HN : Hid (checkGrow n m a b p = false) := by show _ = _; unfold checkGrow; rw [if_pos hm, if_neg he, if_neg hn]
        have q0' := in6f w hn
        clear hz hm hn he
        go_enter Tryd.func24, Tryd.ntmps24
        go_wp2_with fail
        refine q0.mono ?_
        rintro e w0 ⟨rfl, rfl⟩
        go_wp2_with fail
        refine q0'.mono ?_
        rintro e w0 ⟨rfl, rfl⟩
        go_wp2
        go_ret
        exact ⟨by rw [HN.out]; rfl, Below.refl _ _⟩
  · have HN : Hid (checkGrow n m a b p = false) := by show _ = _; unfold checkGrow; rw [if_neg hm]
    have q0 := in6f w hm
    clear hz hm
    go_enter Tryd.func24, Tryd.ntmps24
    go_wp2_with fail
    refine q0.mono ?_
    rintro e w0 ⟨rfl, rfl⟩
    go_wp2
    go_ret
    exact ⟨by rw [HN.out]; rfl, Below.refl _ _⟩

end Go.Proofs.YthbonifpdpknnabDoor.Tr
