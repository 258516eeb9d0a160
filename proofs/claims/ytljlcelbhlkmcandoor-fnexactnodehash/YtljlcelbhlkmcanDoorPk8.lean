/- Texts in one: Tr8, TrX, ShaB. -/
import Derived.Test.YtljlcelbhlkmcanDoorPk7
import Derived.Test.YtljlcelbhlkmcanDoorPk4
/- Chapter 6, the specification's side: the exported functions. -/
namespace Go.Proofs.YtljlcelbhlkmcanDoor.Tr
open Go.RowKit Go.Proofs.YtljlcelbhlkmcanDoor.Mem Go.Proofs.YtljlcelbhlkmcanDoor.Laws Go.Proofs.YtljlcelbhlkmcanDoor.Bytes Go.Proofs.YtljlcelbhlkmcanDoor.Sha
set_option linter.unusedVariables false
set_option linter.unusedSimpArgs false

/-- texts held against each other -/
def eq6 (a b : ByteArray) : Bool := a.toList == b.toList
def rootOf (l : List ByteArray) : ByteArray := if l.length ≤ 200 then root l else ⟨#[]⟩
def inPath (l : List ByteArray) (i : Int) : List ByteArray := if l.length ≤ 200 ∧ 0 ≤ i ∧ i ≤ (l.length : Int) - 1 then path l i.toNat else []
def checkIn (s : ByteArray) (i n : Int) (p : List ByteArray) (r : ByteArray) : Bool :=
  if (1 ≤ n ∧ n ≤ 200) ∧ 0 ≤ i ∧ i ≤ n - 1 then (up (leafH s) i.toNat n.toNat p).2 && eq6 (up (leafH s) i.toNat n.toNat p).1 r else false
def growPath (l : List ByteArray) (n : Int) : List ByteArray := if l.length ≤ 200 ∧ 1 ≤ n ∧ n ≤ (l.length : Int) - 1 then grow l n.toNat true else []
def checkGrow (n m : Int) (a b : ByteArray) (p : List ByteArray) : Bool :=
  if 0 ≤ m ∧ m ≤ 200 then
    (if n = m then eq6 a b && p.isEmpty
     else if 1 ≤ n ∧ n ≤ m - 1 then (grown n.toNat m.toNat true a p).2.2 && eq6 (grown n.toNat m.toNat true a p).1 a && eq6 (grown n.toNat m.toNat true a p).2.1 b else false)
  else false

set_option maxRecDepth 1000000 in
theorem in6 (w : World) (n a b : Int) : Calls Tryd.prog 33 #[.int .i64 n, .int .i64 a, .int .i64 b] w fun e w' => e = .returned (.bool (decide (a ≤ n ∧ n ≤ b))) ∧ w = w' := by
  obtain ⟨t, ht⟩ : ∃ t, decide (a ≤ n ∧ n ≤ b) = t := ⟨_, rfl⟩
  rw [ht]
  by_cases h1 : a ≤ n
  · by_cases h2 : n ≤ b
    · have HD : Hid (t = true) := by show _ = _; rw [← ht]; simp [h1, h2]
      clear ht
      go_enter Tryd.func33, Tryd.ntmps33
      go_wp2
      go_ret
      exact ⟨by rw [HD.out]; rfl, rfl⟩
    · have HD : Hid (t = false) := by show _ = _; rw [← ht]; simp [h2]
      clear ht
      go_enter Tryd.func33, Tryd.ntmps33
      go_wp2
      go_ret
      exact ⟨by rw [HD.out]; rfl, rfl⟩
  · have HD : Hid (t = false) := by show _ = _; rw [← ht]; simp [h1]
    clear ht
    go_enter Tryd.func33, Tryd.ntmps33
    go_wp2
    go_ret
    exact ⟨by rw [HD.out]; rfl, rfl⟩
theorem in6t (w : World) {n a b : Int} (h : a ≤ n ∧ n ≤ b) : Calls Tryd.prog 33 #[.int .i64 n, .int .i64 a, .int .i64 b] w fun e w' => e = .returned (.bool true) ∧ w = w' := by
  have q := in6 w n a b
  rwa [decide_eq_true h] at q
theorem in6f (w : World) {n a b : Int} (h : ¬ (a ≤ n ∧ n ≤ b)) : Calls Tryd.prog 33 #[.int .i64 n, .int .i64 a, .int .i64 b] w fun e w' => e = .returned (.bool false) ∧ w = w' := by
  have q := in6 w n a b
  rwa [decide_eq_false h] at q

set_option maxRecDepth 1000000 in
set_option maxHeartbeats 1000000 in
theorem rootOf_spec (w : World) (v : Value) (l : List ByteArray) (h : Sl w v (ss l)) (hl : l.length ≤ 1000000000000) (hz : ∀ s ∈ l, s.size ≤ 10000000000) :
    Calls Tryd.prog 12 #[v] w fun e w' => e = .returned (.string (rootOf l)) ∧ Below w.heap.size w w' := by
  by_cases h2 : l.length ≤ 200
  · have q := root_any l.length l (Nat.le_refl _) w v h (by omega) hz
    have HN : Hid (rootOf l = root l) := by show _ = _; unfold rootOf; rw [if_pos h2]
    obtain ⟨x, hx⟩ : ∃ x, root l = x := ⟨_, rfl⟩
    rw [hx] at q HN
    obtain ⟨ao, cap, rfl, hcap, _⟩ := h
    have d2 : ¬ (200 : Int) < (l.length : Int) := by omega
    rw [ss_len] at q ⊢
    clear hx hz
    go_enter Tryd.func12, Tryd.ntmps12
    go_wp2_with fail
    refine q.mono ?_
    rintro e w1 ⟨rfl, b1⟩
    go_wp2
    go_ret
    exact ⟨by rw [HN.out]; rfl, b1⟩
  · have HN : Hid (rootOf l = ⟨#[]⟩) := by show _ = _; unfold rootOf; rw [if_neg h2]
    obtain ⟨ao, cap, rfl, hcap, _⟩ := h
    have d2 : (200 : Int) < (l.length : Int) := by omega
    rw [ss_len]
    go_enter Tryd.func12, Tryd.ntmps12
    go_wp2
    go_ret
    exact ⟨by rw [HN.out]; rfl, Below.refl _ _⟩

set_option maxRecDepth 1000000 in
set_option maxHeartbeats 2000000 in
theorem inPath_spec (w : World) (v : Value) (l : List ByteArray) (i : Int) (h : Sl w v (ss l)) (hl : l.length ≤ 1000000000000) (hz : ∀ s ∈ l, s.size ≤ 10000000000) :
    Calls Tryd.prog 16 #[v, .int .i64 i] w fun e w' => ∃ v', e = .returned v' ∧ Own w' w.heap.size w'.heap.size 9 v' (ss (inPath l i)) ∧ Below w.heap.size w w' := by
  have HS : Hid (Sl w v (ss l)) := h
  obtain ⟨ao, cap, rfl, hcap, _⟩ := h
  have HO : Hid (Own (w.alloc (.cells #[] 9)) w.heap.size (w.alloc (.cells #[] 9)).heap.size 9 (.slice (some ⟨w.heap.size, 0, none⟩) 0 0) (ss [])) := emptyT w w.heap.size (Nat.le_refl _)
  have HB : Hid (Below w.heap.size w (w.alloc (.cells #[] 9))) := (Below.refl _ _).alloc (Nat.le_refl _) _
  rw [ss_len] at HS ⊢
  by_cases h2 : l.length ≤ 200
  · have d2 : ¬ (200 : Int) < (l.length : Int) := by omega
    have hwr : IntKind.i64.wrap ((l.length : Int) - 1) = (l.length : Int) - 1 := by rw [IntKind.wrap_i64]; omega
    by_cases hi : 0 ≤ i ∧ i ≤ (l.length : Int) - 1
    · obtain ⟨j, rfl⟩ : ∃ j : Nat, i = (j : Int) := ⟨i.toNat, by omega⟩
      have HN : Hid (inPath l (j : Int) = path l j) := by show _ = _; unfold inPath; rw [if_pos ⟨h2, hi⟩]; rfl
      have q0 := in6t w hi
      have q := path_any l.length l (Nat.le_refl _) w _ j HS.out (by omega) (by omega) hz
      obtain ⟨P, hP⟩ : ∃ x, path l j = x := ⟨_, rfl⟩
      rw [hP] at q HN
      clear hP hz hi HO HB HS
      go_enter Tryd.func16, Tryd.ntmps16
      go_wp2_with fail
      refine q0.mono ?_
      rintro e w0 ⟨rfl, rfl⟩
      go_wp2_with fail
      refine q.mono ?_
      rintro e w1 ⟨v1, rfl, o1, b1⟩
      go_wp2
      go_ret
      exact ⟨v1, rfl, by rw [HN.out]; exact o1, b1⟩
    · have HN : Hid (inPath l i = []) := by show _ = _; unfold inPath; rw [if_neg (fun hc => hi hc.2)]
      have q0 := in6f w hi
      clear hz hi HS
      go_enter Tryd.func16, Tryd.ntmps16
      go_wp2_with fail
      refine q0.mono ?_
      rintro e w0 ⟨rfl, rfl⟩
      go_wp2
      go_ret
      exact ⟨_, rfl, by rw [HN.out]; exact HO.out, HB.out⟩
  · have d2 : (200 : Int) < (l.length : Int) := by omega
    have HN : Hid (inPath l i = []) := by show _ = _; unfold inPath; rw [if_neg (fun hc => h2 hc.1)]
    clear hz HS
    go_enter Tryd.func16, Tryd.ntmps16
    go_wp2
    go_ret
    exact ⟨_, rfl, by rw [HN.out]; exact HO.out, HB.out⟩

set_option maxRecDepth 1000000 in
set_option maxHeartbeats 2000000 in
theorem growPath_spec (w : World) (v : Value) (l : List ByteArray) (n : Int) (h : Sl w v (ss l)) (hl : l.length ≤ 1000000000000) (hz : ∀ s ∈ l, s.size ≤ 10000000000) :
    Calls Tryd.prog 22 #[v, .int .i64 n] w fun e w' => ∃ v', e = .returned v' ∧ Own w' w.heap.size w'.heap.size 9 v' (ss (growPath l n)) ∧ Below w.heap.size w w' := by
  have HS : Hid (Sl w v (ss l)) := h
  obtain ⟨ao, cap, rfl, hcap, _⟩ := h
  have HO : Hid (Own (w.alloc (.cells #[] 9)) w.heap.size (w.alloc (.cells #[] 9)).heap.size 9 (.slice (some ⟨w.heap.size, 0, none⟩) 0 0) (ss [])) := emptyT w w.heap.size (Nat.le_refl _)
  have HB : Hid (Below w.heap.size w (w.alloc (.cells #[] 9))) := (Below.refl _ _).alloc (Nat.le_refl _) _
  rw [ss_len] at HS ⊢
  by_cases h2 : l.length ≤ 200
  · have d2 : ¬ (200 : Int) < (l.length : Int) := by omega
    have hwr : IntKind.i64.wrap ((l.length : Int) - 1) = (l.length : Int) - 1 := by rw [IntKind.wrap_i64]; omega
    by_cases hi : 1 ≤ n ∧ n ≤ (l.length : Int) - 1
    · obtain ⟨j, rfl⟩ : ∃ j : Nat, n = (j : Int) := ⟨n.toNat, by omega⟩
      have HN : Hid (growPath l (j : Int) = grow l j true) := by show _ = _; unfold growPath; rw [if_pos ⟨h2, hi⟩]; rfl
      have q0 := in6t w hi
      have q := grow_any l.length l (Nat.le_refl _) w _ j true HS.out (by omega) (by omega) (by omega) hz
      obtain ⟨P, hP⟩ : ∃ x, grow l j true = x := ⟨_, rfl⟩
      rw [hP] at q HN
      clear hP hz hi HO HB HS
      go_enter Tryd.func22, Tryd.ntmps22
      go_wp2_with fail
      refine q0.mono ?_
      rintro e w0 ⟨rfl, rfl⟩
      go_wp2_with fail
      refine q.mono ?_
      rintro e w1 ⟨v1, rfl, o1, b1⟩
      go_wp2
      go_ret
      exact ⟨v1, rfl, by rw [HN.out]; exact o1, b1⟩
    · have HN : Hid (growPath l n = []) := by show _ = _; unfold growPath; rw [if_neg (fun hc => hi hc.2)]
      have q0 := in6f w hi
      clear hz hi HS
      go_enter Tryd.func22, Tryd.ntmps22
      go_wp2_with fail
      refine q0.mono ?_
      rintro e w0 ⟨rfl, rfl⟩
      go_wp2
      go_ret
      exact ⟨_, rfl, by rw [HN.out]; exact HO.out, HB.out⟩
  · have d2 : (200 : Int) < (l.length : Int) := by omega
    have HN : Hid (growPath l n = []) := by show _ = _; unfold growPath; rw [if_neg (fun hc => h2 hc.1)]
    clear hz HS
    go_enter Tryd.func22, Tryd.ntmps22
    go_wp2
    go_ret
    exact ⟨_, rfl, by rw [HN.out]; exact HO.out, HB.out⟩

set_option maxRecDepth 1000000 in
set_option maxHeartbeats 2000000 in
theorem checkIn_spec (w : World) (v : Value) (s : ByteArray) (i n : Int) (p : List ByteArray) (r : ByteArray) (h : Sl w v (ss p)) (hl : p.length ≤ 1000000000000) (hs : s.size ≤ 10000000000) (hz : ∀ s ∈ p, s.size ≤ 10000000000) :
    Calls Tryd.prog 20 #[.string s, .int .i64 i, .int .i64 n, v, .string r] w fun e w' => e = .returned (.bool (checkIn s i n p r)) ∧ Below w.heap.size w w' := by
  by_cases hn : 1 ≤ n ∧ n ≤ 200
  · have q0 := in6t w hn
    have hwr : IntKind.i64.wrap (n - 1) = n - 1 := by rw [IntKind.wrap_i64]; omega
    by_cases hi : 0 ≤ i ∧ i ≤ n - 1
    · have q0' := in6t w hi
      obtain ⟨j, rfl⟩ : ∃ j : Nat, i = (j : Int) := ⟨i.toNat, by omega⟩
      obtain ⟨m, rfl⟩ : ∃ j : Nat, n = (j : Int) := ⟨n.toNat, by omega⟩
      have HN : Hid (checkIn s (j : Int) (m : Int) p r = ((up (leafH s) j m p).2 && eq6 (up (leafH s) j m p).1 r)) := by show _ = _; unfold checkIn; rw [if_pos ⟨hn, hi⟩]; rfl
      have q1 := leaf_spec w s (by omega)
      have q2 : ∀ W, Below w.heap.size w W → _ := fun W hW => up_any m m (Nat.le_refl _) W v (leafH s) j p (h.later hW) (by omega) (by omega) (by rw [leafH_size]; omega) hl hz
      obtain ⟨f, hf⟩ : ∃ x, leafH s = x := ⟨_, rfl⟩
      simp only [hf] at q1 q2 HN
      obtain ⟨x, hx⟩ : ∃ x, (up f j m p).1 = x := ⟨_, rfl⟩
      obtain ⟨y, hy⟩ : ∃ x, (up f j m p).2 = x := ⟨_, rfl⟩
      simp only [hx, hy] at q2 HN
      obtain ⟨t, ht⟩ : ∃ t, (x.toList == r.toList) = t := ⟨_, rfl⟩
      have HN2 : Hid (checkIn s (j : Int) (m : Int) p r = (y && t)) := by show _ = _; rw [HN.out, ← ht]; rfl
      clear hf hx hy hz hi hn h HN
      go_enter Tryd.func20, Tryd.ntmps20
      go_wp2_with fail
      refine q0.mono ?_
      rintro e w0 ⟨rfl, rfl⟩
      go_wp2_with fail
      refine q0'.mono ?_
      rintro e w0 ⟨rfl, rfl⟩
      go_wp2_with fail
      refine q1.mono ?_
      rintro e w1 ⟨rfl, b1⟩
      go_wp2_with fail
      refine (q2 _ b1).mono ?_
      rintro e w2 ⟨rfl, b2⟩
      have B2 : Below w.heap.size w w2 := b1.trans (b2.mono b1.size)
      clear q1 q2 q0 q0' b1 b2
      cases y
      · have HF : Hid (checkIn s (j : Int) (m : Int) p r = false) := HN2.out
        clear HN2
        go_wp2
        go_ret
        exact ⟨by rw [HF.out]; rfl, B2⟩
      · have HF : Hid (checkIn s (j : Int) (m : Int) p r = t) := HN2.out
        clear HN2
        go_wp2
        go_ret
        exact ⟨by rw [HF.out]; rfl, B2⟩
    · have HN : Hid (checkIn s i n p r = false) := by show _ = _; unfold checkIn; rw [if_neg (fun hc => hi hc.2)]
      have q0' := in6f w hi
      clear hi hz
      go_enter Tryd.func20, Tryd.ntmps20
      go_wp2_with fail
      refine q0.mono ?_
      rintro e w0 ⟨rfl, rfl⟩
      go_wp2_with fail
      refine q0'.mono ?_
      rintro e w0 ⟨rfl, rfl⟩
      go_wp2
      go_ret
      exact ⟨by rw [HN.out]; rfl, Below.refl _ _⟩
  · have HN : Hid (checkIn s i n p r = false) := by show _ = _; unfold checkIn; rw [if_neg (fun hc => hn hc.1)]
    have q0 := in6f w hn
    clear hn hz
    go_enter Tryd.func20, Tryd.ntmps20
    go_wp2_with fail
    refine q0.mono ?_
    rintro e w0 ⟨rfl, rfl⟩
    go_wp2
    go_ret
    exact ⟨by rw [HN.out]; rfl, Below.refl _ _⟩

set_option maxRecDepth 1000000 in
set_option maxHeartbeats 2000000 in
theorem checkGrow_spec (w : World) (v : Value) (n m : Int) (a b : ByteArray) (p : List ByteArray) (h : Sl w v (ss p)) (hl : p.length ≤ 1000000000000) (ha : a.size ≤ 10000000000) (hz : ∀ s ∈ p, s.size ≤ 10000000000) :
    Calls Tryd.prog 24 #[.int .i64 n, .int .i64 m, .string a, .string b, v] w fun e w' => e = .returned (.bool (checkGrow n m a b p)) ∧ Below w.heap.size w w' := by
  by_cases hm : 0 ≤ m ∧ m ≤ 200
  · have q0 := in6t w hm
    by_cases he : n = m
    · obtain ⟨ao, cap, rfl, hcap, _⟩ := h
      obtain ⟨t, ht⟩ : ∃ t, (a.toList == b.toList) = t := ⟨_, rfl⟩
      have dE : (((ss p).length : Int) == 0) = p.isEmpty := by rw [ss_len]; cases p <;> simp <;> omega
      obtain ⟨u, hu⟩ : ∃ t, p.isEmpty = t := ⟨_, rfl⟩
      rw [hu] at dE
      have HN : Hid (checkGrow n m a b p = (t && u)) := by show _ = _; unfold checkGrow; rw [if_pos hm, if_pos he, ← ht, ← hu]; rfl
      have dd : (n == m) = true := by rw [beq_iff_eq]; exact he
      clear hz hm he hu
      cases t
      · have HF : Hid (checkGrow n m a b p = false) := HN.out
        clear HN
        go_enter Tryd.func24, Tryd.ntmps24
        go_wp2_with fail
        refine q0.mono ?_
        rintro e w0 ⟨rfl, rfl⟩
        go_wp2
        go_ret
        exact ⟨by rw [HF.out]; rfl, Below.refl _ _⟩
      · have HF : Hid (checkGrow n m a b p = u) := HN.out
        clear HN
        go_enter Tryd.func24, Tryd.ntmps24
        go_wp2_with fail
        refine q0.mono ?_
        rintro e w0 ⟨rfl, rfl⟩
        go_wp2
        go_ret
        exact ⟨by rw [HF.out]; rfl, Below.refl _ _⟩
    · have dd : (n == m) = false := by rw [beq_eq_false_iff_ne]; exact he
      have hwr : IntKind.i64.wrap (m - 1) = m - 1 := by rw [IntKind.wrap_i64]; omega
      by_cases hn : 1 ≤ n ∧ n ≤ m - 1
      · have q0' := in6t w hn
        obtain ⟨j, rfl⟩ : ∃ j : Nat, n = (j : Int) := ⟨n.toNat, by omega⟩
        obtain ⟨k, rfl⟩ : ∃ j : Nat, m = (j : Int) := ⟨m.toNat, by omega⟩
        have HN : Hid (checkGrow (j : Int) (k : Int) a b p = ((grown j k true a p).2.2 && eq6 (grown j k true a p).1 a && eq6 (grown j k true a p).2.1 b)) := by show _ = _; unfold checkGrow; rw [if_pos hm, if_neg he, if_pos hn]; rfl
        have q2 := grown_any k k (Nat.le_refl _) w v j true a p h (by omega) (by omega) (by omega) ha hl hz
        obtain ⟨x, hx⟩ : ∃ x, (grown j k true a p).1 = x := ⟨_, rfl⟩
        obtain ⟨y, hy⟩ : ∃ x, (grown j k true a p).2.1 = x := ⟨_, rfl⟩
        obtain ⟨z, hzz⟩ : ∃ x, (grown j k true a p).2.2 = x := ⟨_, rfl⟩
        simp only [hx, hy, hzz] at q2 HN
        obtain ⟨t, ht⟩ : ∃ t, (x.toList == a.toList) = t := ⟨_, rfl⟩
        obtain ⟨u, hu⟩ : ∃ t, (y.toList == b.toList) = t := ⟨_, rfl⟩
        have HN2 : Hid (checkGrow (j : Int) (k : Int) a b p = (z && t && u)) := by show _ = _; rw [HN.out, ← ht, ← hu]; rfl
        clear hx hy hzz hz hm hn he h HN
        go_enter Tryd.func24, Tryd.ntmps24
        go_wp2_with fail
        refine q0.mono ?_
        rintro e w0 ⟨rfl, rfl⟩
        go_wp2_with fail
        refine q0'.mono ?_
        rintro e w0 ⟨rfl, rfl⟩
        go_wp2_with fail
        refine q2.mono ?_
        rintro e w2 ⟨rfl, b2⟩
        clear q2 q0 q0'
        cases z
        · have HF : Hid (checkGrow (j : Int) (k : Int) a b p = false) := HN2.out
          clear HN2
          go_wp2
          go_ret
          exact ⟨by rw [HF.out]; rfl, b2⟩
        · cases t
          · have HF : Hid (checkGrow (j : Int) (k : Int) a b p = false) := HN2.out
            clear HN2
            go_wp2
            go_ret
            exact ⟨by rw [HF.out]; rfl, b2⟩
          · have HF : Hid (checkGrow (j : Int) (k : Int) a b p = u) := HN2.out
            clear HN2
            go_wp2
            go_ret
            exact ⟨by rw [HF.out]; rfl, b2⟩
      · have HN : Hid (checkGrow n m a b p = false) := by show _ = _; unfold checkGrow; rw [if_pos hm, if_neg he, if_neg hn]
        have q0' := in6f w hn
        clear hz hm hn he
        go_enter Tryd.func24, Tryd.ntmps24
        go_wp2_with fail
        refine q0.mono ?_
        rintro e w0 ⟨rfl, rfl⟩
        go_wp2_with fail
        refine q0'.mono ?_
        rintro e w0 ⟨rfl, rfl⟩
        go_wp2
        go_ret
        exact ⟨by rw [HN.out]; rfl, Below.refl _ _⟩
  · have HN : Hid (checkGrow n m a b p = false) := by show _ = _; unfold checkGrow; rw [if_neg hm]
    have q0 := in6f w hm
    clear hz hm
    go_enter Tryd.func24, Tryd.ntmps24
    go_wp2_with fail
    refine q0.mono ?_
    rintro e w0 ⟨rfl, rfl⟩
    go_wp2
    go_ret
    exact ⟨by rw [HN.out]; rfl, Below.refl _ _⟩

end Go.Proofs.YtljlcelbhlkmcanDoor.Tr

/- Chapter 6: the exact laws, over contracts of the landed functions. -/
namespace Go.Proofs.YtljlcelbhlkmcanDoor.Tr
open Go.RowKit Go.Proofs.YtljlcelbhlkmcanDoor.Mem Go.Proofs.YtljlcelbhlkmcanDoor.Laws Go.Proofs.YtljlcelbhlkmcanDoor.Bytes Go.Proofs.YtljlcelbhlkmcanDoor.Sha
set_option linter.unusedVariables false
set_option linter.unusedSimpArgs false

theorem mem_tot {l : List ByteArray} {s : ByteArray} (h : s ∈ l) : s.size ≤ Puts.tot l := by
  induction l with
  | nil => cases h
  | cons t r ih =>
    have e : Puts.tot (t :: r) = t.size + Puts.tot r := by simp [Puts.tot]
    rw [e]
    rcases List.mem_cons.1 h with rfl | h
    · omega
    · have := ih h; omega
theorem inPath_len (l : List ByteArray) (i : Int) : (inPath l i).length ≤ 1000 := by
  unfold inPath
  split
  · rename_i h
    rw [path_len]
    have := dep_le l.length i.toNat
    omega
  · simp
theorem growPath_len (l : List ByteArray) (n : Int) : (growPath l n).length ≤ 1000 := by
  unfold growPath
  split
  · rename_i h
    rw [grow_len]
    have := gdep_le l.length n.toNat true
    omega
  · simp

set_option maxRecDepth 1000000 in
set_option maxHeartbeats 1000000 in
theorem exact_node (w : World) (a b : ByteArray) (hm : a.size ≤ maxLen) (hm2 : b.size ≤ maxLen)
    (iF : ∀ W, Below w.heap.size w W → a.size ≤ 1048576 → b.size ≤ 1048576 → Calls Tryd.prog 10 #[.string a, .string b] W fun e w' => e = .returned (.string (nodeH a b)) ∧ Below W.heap.size W w') :
    Calls Tryd.prog 3 #[.string a, .string b] w fun e w' => e = .returned (.bool true) ∧ Below w.heap.size w w' := by
  unfold maxLen at hm hm2
  by_cases hbig : 1048576 < a.size
  · have hb : (1048576 : Int) < (a.size : Int) := by omega
    clear iF
    go_enter Tryd.func3, Tryd.ntmps3
    go_wp2
    go_ret
    exact ⟨rfl, Below.refl _ _⟩
  have hb : ¬ (1048576 : Int) < (a.size : Int) := by omega
  by_cases hbig2 : 1048576 < b.size
  · have hb2 : (1048576 : Int) < (b.size : Int) := by omega
    clear iF
    go_enter Tryd.func3, Tryd.ntmps3
    go_wp2
    go_ret
    exact ⟨rfl, Below.refl _ _⟩
  · have hb2 : ¬ (1048576 : Int) < (b.size : Int) := by omega
    have q1 := node_spec w a b (by omega) (by omega)
    have q2 : ∀ W, Below w.heap.size w W → _ := fun W hW => iF W hW (by omega) (by omega)
    obtain ⟨x, hx⟩ : ∃ x, nodeH a b = x := ⟨_, rfl⟩
    simp only [hx] at q1 q2
    clear hx iF
    go_enter Tryd.func3, Tryd.ntmps3
    go_wp2_with fail
    refine q1.mono ?_
    rintro e W1 ⟨rfl, b1⟩
    go_wp2_with fail
    refine (q2 _ b1).mono ?_
    rintro e W2 ⟨rfl, b2⟩
    have B2 : Below w.heap.size w W2 := b1.trans (b2.mono b1.size)
    go_wp2
    go_ret
    exact ⟨rfl, B2⟩

set_option maxRecDepth 1000000 in
set_option maxHeartbeats 4000000 in
theorem exact_root (w : World) (v0 : Value) (l0 : List ByteArray) (h0 : Sl w v0 (ss l0)) (y0 : ∀ s ∈ l0, s.size ≤ maxLen) (m0 : l0.length ≤ maxLen)
    (iF : ∀ W v', Below w.heap.size w W → Sl W v' (ss l0) → l0.length ≤ 1048576 → (∀ s ∈ l0, s.size ≤ 1048576) → Calls Tryd.prog 14 #[v'] W fun e w' => e = .returned (.string (rootOf l0)) ∧ Below W.heap.size W w') :
    Calls Tryd.prog 4 #[v0] w fun e w' => e = .returned (.bool true) ∧ Below w.heap.size w w' := by
  have hs := h0
  obtain ⟨ao0, cap0, rfl, -, -, -⟩ := h0
  rw [ss_len] at hs ⊢
  unfold maxLen at m0 y0
  have hsz := Strs.sz_any w _ l0 1048576 hs y0 m0 (by omega)
  go_enter Tryd.func4, Tryd.ntmps4
  go_wp2_with fail
  refine hsz.mono ?_
  rintro e WX ⟨⟨r, rfl, hr⟩, hWX⟩
  subst hWX
  clear hsz
  rcases hr with hr | ⟨hfit, hr⟩
  · go_wp2
    go_ret
    exact ⟨rfl, Below.refl _ _⟩
  have hl : l0.length ≤ 1048576 := by omega
  have hz : ∀ s ∈ l0, s.size ≤ 1048576 := fun s hs => by have := mem_tot hs; omega
  have q1 : ∀ W v', Below w.heap.size w W → Sl W v' (ss l0) → _ := fun W v' hW hv => iF W v' hW hv hl hz
  have q2 : ∀ W v', Sl W v' (ss l0) → _ := fun W v' hv => rootOf_spec W v' l0 hv (by omega) (fun s hs => by have := hz s hs; omega)
  obtain ⟨R, hR⟩ : ∃ R, rootOf l0 = R := ⟨_, rfl⟩
  simp only [hR] at q1 q2
  clear hR hz iF hfit y0
  have B0 : Below w.heap.size w w := Below.refl _ _
  go_wp2_with fail
  refine (Strs.to_s w _ l0 (hs.later B0) (by omega)).mono ?_
  rintro e W1 ⟨v1, rfl, o_v1_1, b1⟩
  have s1 := b1.size
  have B1 : Below w.heap.size w W1 := B0.trans (b1.mono B0.size)
  go_wp2_with fail
  refine (q2 W1 _ o_v1_1.sl).mono ?_
  rintro e W2 ⟨rfl, b2⟩
  have s2 := b2.size
  have B2 : Below w.heap.size w W2 := B1.trans (b2.mono B1.size)
  have o_v1_2 := o_v1_1.later b2 (by omega)
  clear o_v1_1
  clear o_v1_2
  go_wp2_with fail
  refine (Strs.to_s W2 _ l0 (hs.later B2) (by omega)).mono ?_
  rintro e W3 ⟨x0, rfl, o_x0_3, b3⟩
  have s3 := b3.size
  have B3 : Below w.heap.size w W3 := B2.trans (b3.mono B2.size)
  go_wp2_with fail
  refine (q1 W3 _ B3 o_x0_3.sl).mono ?_
  rintro e W4 ⟨rfl, b4⟩
  have s4 := b4.size
  have B4 : Below w.heap.size w W4 := B3.trans (b4.mono B3.size)
  have o_x0_4 := o_x0_3.later b4 (by omega)
  clear o_x0_3
  go_wp2_with fail
  refine (Strs.to_s W4 _ l0 (hs.later B4) (by omega)).mono ?_
  rintro e W5 ⟨t0, rfl, o_t0_5, b5⟩
  have s5 := b5.size
  have B5 : Below w.heap.size w W5 := B4.trans (b5.mono B4.size)
  have o_x0_5 := o_x0_4.later b5 (by omega)
  clear o_x0_4
  go_wp2_with fail
  refine (Strs.eqs_true W5 _ _ l0 o_x0_5.sl o_t0_5.sl (by omega)).mono ?_
  rintro e W6 ⟨rfl, b6, s6⟩
  have B6 : Below w.heap.size w W6 := B5.trans (b6 _)
  have o_x0_6 := o_x0_5.later (b6 _) (Nat.le_refl _)
  have o_t0_6 := o_t0_5.later (b6 _) (Nat.le_refl _)
  clear o_x0_5 o_t0_5
  clear o_t0_6
  go_wp2
  go_ret
  exact ⟨rfl, B6⟩

set_option maxRecDepth 1000000 in
set_option maxHeartbeats 4000000 in
theorem exact_in (w : World) (v0 : Value) (l0 : List ByteArray) (a1 : Int) (h0 : Sl w v0 (ss l0)) (y0 : ∀ s ∈ l0, s.size ≤ maxLen) (m0 : l0.length ≤ maxLen)
    (iF : ∀ W v', Below w.heap.size w W → Sl W v' (ss l0) → l0.length ≤ 1048576 → (∀ s ∈ l0, s.size ≤ 1048576) → Calls Tryd.prog 17 #[v', .int .i64 a1] W fun e w' => ∃ v'', e = .returned v'' ∧ Own w' W.heap.size w'.heap.size 9 v'' (ss (inPath l0 a1)) ∧ Below W.heap.size W w') :
    Calls Tryd.prog 5 #[v0, .int .i64 a1] w fun e w' => e = .returned (.bool true) ∧ Below w.heap.size w w' := by
  have hs := h0
  obtain ⟨ao0, cap0, rfl, -, -, -⟩ := h0
  rw [ss_len] at hs ⊢
  unfold maxLen at m0 y0
  have hsz := Strs.sz_any w _ l0 1048576 hs y0 m0 (by omega)
  go_enter Tryd.func5, Tryd.ntmps5
  go_wp2_with fail
  refine hsz.mono ?_
  rintro e WX ⟨⟨r, rfl, hr⟩, hWX⟩
  subst hWX
  clear hsz
  rcases hr with hr | ⟨hfit, hr⟩
  · go_wp2
    go_ret
    exact ⟨rfl, Below.refl _ _⟩
  have hl : l0.length ≤ 1048576 := by omega
  have hz : ∀ s ∈ l0, s.size ≤ 1048576 := fun s hs => by have := mem_tot hs; omega
  have q1 : ∀ W v', Below w.heap.size w W → Sl W v' (ss l0) → _ := fun W v' hW hv => iF W v' hW hv hl hz
  have q2 : ∀ W v', Sl W v' (ss l0) → _ := fun W v' hv => inPath_spec W v' l0 a1 hv (by omega) (fun s hs => by have := hz s hs; omega)
  have hRl := inPath_len l0 a1
  obtain ⟨R, hR⟩ : ∃ R, inPath l0 a1 = R := ⟨_, rfl⟩
  simp only [hR] at q1 q2 hRl
  clear hR hz iF hfit y0
  have B0 : Below w.heap.size w w := Below.refl _ _
  go_wp2_with fail
  refine (Strs.to_s w _ l0 (hs.later B0) (by omega)).mono ?_
  rintro e W1 ⟨v1, rfl, o_v1_1, b1⟩
  have s1 := b1.size
  have B1 : Below w.heap.size w W1 := B0.trans (b1.mono B0.size)
  go_wp2_with fail
  refine (q2 W1 _ o_v1_1.sl).mono ?_
  rintro e W2 ⟨vw, rfl, o_vw_2, b2⟩
  have s2 := b2.size
  have B2 : Below w.heap.size w W2 := B1.trans (b2.mono B1.size)
  have o_v1_2 := o_v1_1.later b2 (by omega)
  clear o_v1_1
  clear o_v1_2
  go_wp2_with fail
  refine (Strs.to_s W2 _ l0 (hs.later B2) (by omega)).mono ?_
  rintro e W3 ⟨x0, rfl, o_x0_3, b3⟩
  have s3 := b3.size
  have B3 : Below w.heap.size w W3 := B2.trans (b3.mono B2.size)
  have o_vw_3 := o_vw_2.later b3 (by omega)
  clear o_vw_2
  go_wp2_with fail
  refine (q1 W3 _ B3 o_x0_3.sl).mono ?_
  rintro e W4 ⟨g0, rfl, o_g0_4, b4⟩
  have s4 := b4.size
  have B4 : Below w.heap.size w W4 := B3.trans (b4.mono B3.size)
  have o_vw_4 := o_vw_3.later b4 (by omega)
  have o_x0_4 := o_x0_3.later b4 (by omega)
  clear o_vw_3 o_x0_3
  go_wp2_with fail
  refine (Strs.eqs_true W4 _ _ R o_g0_4.sl o_vw_4.sl (by omega)).mono ?_
  rintro e W5 ⟨rfl, b5, s5⟩
  have B5 : Below w.heap.size w W5 := B4.trans (b5 _)
  have o_vw_5 := o_vw_4.later (b5 _) (Nat.le_refl _)
  have o_x0_5 := o_x0_4.later (b5 _) (Nat.le_refl _)
  have o_g0_5 := o_g0_4.later (b5 _) (Nat.le_refl _)
  clear o_vw_4 o_x0_4 o_g0_4
  go_wp2_with fail
  refine (Strs.to_s W5 _ l0 (hs.later B5) (by omega)).mono ?_
  rintro e W6 ⟨t0, rfl, o_t0_6, b6⟩
  have s6 := b6.size
  have B6 : Below w.heap.size w W6 := B5.trans (b6.mono B5.size)
  have o_vw_6 := o_vw_5.later b6 (by omega)
  have o_x0_6 := o_x0_5.later b6 (by omega)
  have o_g0_6 := o_g0_5.later b6 (by omega)
  clear o_vw_5 o_x0_5 o_g0_5
  go_wp2_with fail
  refine (Strs.eqs_true W6 _ _ l0 o_x0_6.sl o_t0_6.sl (by omega)).mono ?_
  rintro e W7 ⟨rfl, b7, s7⟩
  have B7 : Below w.heap.size w W7 := B6.trans (b7 _)
  have o_vw_7 := o_vw_6.later (b7 _) (Nat.le_refl _)
  have o_x0_7 := o_x0_6.later (b7 _) (Nat.le_refl _)
  have o_g0_7 := o_g0_6.later (b7 _) (Nat.le_refl _)
  have o_t0_7 := o_t0_6.later (b7 _) (Nat.le_refl _)
  clear o_vw_6 o_x0_6 o_g0_6 o_t0_6
  clear o_t0_7
  go_wp2_with fail
  refine (Strs.marks_any W7 _ (W2.heap.size) (W3.heap.size) l0 1 o_x0_7 (by omega) (by omega) (by omega) (by omega)).mono ?_
  rintro e W8 ⟨rfl, o_x0_8, a8⟩
  have s8 := a8.size
  have B8 : Below w.heap.size w W8 := B7.trans (a8.below (by have := B7.size; omega) B7.size)
  have o_vw_8 := o_vw_7.apart a8 (by omega) (by omega)
  have o_g0_8 := o_g0_7.apart a8 (by omega) (by omega)
  clear o_vw_7 o_x0_7 o_g0_7
  clear o_x0_8
  go_wp2_with fail
  refine (Strs.eqs_true W8 _ _ R o_g0_8.sl o_vw_8.sl (by omega)).mono ?_
  rintro e W9 ⟨rfl, b9, s9⟩
  have B9 : Below w.heap.size w W9 := B8.trans (b9 _)
  have o_vw_9 := o_vw_8.later (b9 _) (Nat.le_refl _)
  have o_g0_9 := o_g0_8.later (b9 _) (Nat.le_refl _)
  clear o_vw_8 o_g0_8
  go_wp2_with fail
  refine (Strs.marks_any W9 _ (W3.heap.size) (W4.heap.size) R 1 o_g0_9 (by omega) (by omega) (by omega) (by omega)).mono ?_
  rintro e W10 ⟨rfl, o_g0_10, a10⟩
  have s10 := a10.size
  have B10 : Below w.heap.size w W10 := B9.trans (a10.below (by have := B9.size; omega) B9.size)
  have o_vw_10 := o_vw_9.apart a10 (by omega) (by omega)
  clear o_vw_9 o_g0_9
  go_wp2_with fail
  refine (Strs.helds_any W10 _ R.length 1 o_g0_10.sl (by omega) (by omega) (by omega)).mono ?_
  rintro e W11 ⟨rfl, b11⟩
  have s11 := b11.size
  have B11 : Below w.heap.size w W11 := B10.trans (b11.mono B10.size)
  have o_vw_11 := o_vw_10.later b11 (by omega)
  have o_g0_11 := o_g0_10.later b11 (by omega)
  clear o_vw_10 o_g0_10
  go_wp2_with fail
  refine (Strs.to_s W11 _ l0 (hs.later B11) (by omega)).mono ?_
  rintro e W12 ⟨t3, rfl, o_t3_12, b12⟩
  have s12 := b12.size
  have B12 : Below w.heap.size w W12 := B11.trans (b12.mono B11.size)
  have o_vw_12 := o_vw_11.later b12 (by omega)
  have o_g0_12 := o_g0_11.later b12 (by omega)
  clear o_vw_11 o_g0_11
  go_wp2_with fail
  refine (q1 W12 _ B12 o_t3_12.sl).mono ?_
  rintro e W13 ⟨hv, rfl, o_hv_13, b13⟩
  have s13 := b13.size
  have B13 : Below w.heap.size w W13 := B12.trans (b13.mono B12.size)
  have o_vw_13 := o_vw_12.later b13 (by omega)
  have o_g0_13 := o_g0_12.later b13 (by omega)
  have o_t3_13 := o_t3_12.later b13 (by omega)
  clear o_vw_12 o_g0_12 o_t3_12
  clear o_t3_13
  go_wp2_with fail
  refine (Strs.eqs_true W13 _ _ R o_hv_13.sl o_vw_13.sl (by omega)).mono ?_
  rintro e W14 ⟨rfl, b14, s14⟩
  have B14 : Below w.heap.size w W14 := B13.trans (b14 _)
  have o_vw_14 := o_vw_13.later (b14 _) (Nat.le_refl _)
  have o_g0_14 := o_g0_13.later (b14 _) (Nat.le_refl _)
  have o_hv_14 := o_hv_13.later (b14 _) (Nat.le_refl _)
  clear o_vw_13 o_g0_13 o_hv_13
  go_wp2_with fail
  refine (Strs.helds_any W14 _ R.length 1 o_g0_14.sl (by omega) (by omega) (by omega)).mono ?_
  rintro e W15 ⟨rfl, b15⟩
  have s15 := b15.size
  have B15 : Below w.heap.size w W15 := B14.trans (b15.mono B14.size)
  have o_vw_15 := o_vw_14.later b15 (by omega)
  have o_g0_15 := o_g0_14.later b15 (by omega)
  have o_hv_15 := o_hv_14.later b15 (by omega)
  clear o_vw_14 o_g0_14 o_hv_14
  go_wp2
  go_ret
  exact ⟨rfl, B15⟩

set_option maxRecDepth 1000000 in
set_option maxHeartbeats 4000000 in
theorem exact_grow (w : World) (v0 : Value) (l0 : List ByteArray) (a1 : Int) (h0 : Sl w v0 (ss l0)) (y0 : ∀ s ∈ l0, s.size ≤ maxLen) (m0 : l0.length ≤ maxLen)
    (iF : ∀ W v', Below w.heap.size w W → Sl W v' (ss l0) → l0.length ≤ 1048576 → (∀ s ∈ l0, s.size ≤ 1048576) → Calls Tryd.prog 23 #[v', .int .i64 a1] W fun e w' => ∃ v'', e = .returned v'' ∧ Own w' W.heap.size w'.heap.size 9 v'' (ss (growPath l0 a1)) ∧ Below W.heap.size W w') :
    Calls Tryd.prog 7 #[v0, .int .i64 a1] w fun e w' => e = .returned (.bool true) ∧ Below w.heap.size w w' := by
  have hs := h0
  obtain ⟨ao0, cap0, rfl, -, -, -⟩ := h0
  rw [ss_len] at hs ⊢
  unfold maxLen at m0 y0
  have hsz := Strs.sz_any w _ l0 1048576 hs y0 m0 (by omega)
  go_enter Tryd.func7, Tryd.ntmps7
  go_wp2_with fail
  refine hsz.mono ?_
  rintro e WX ⟨⟨r, rfl, hr⟩, hWX⟩
  subst hWX
  clear hsz
  rcases hr with hr | ⟨hfit, hr⟩
  · go_wp2
    go_ret
    exact ⟨rfl, Below.refl _ _⟩
  have hl : l0.length ≤ 1048576 := by omega
  have hz : ∀ s ∈ l0, s.size ≤ 1048576 := fun s hs => by have := mem_tot hs; omega
  have q1 : ∀ W v', Below w.heap.size w W → Sl W v' (ss l0) → _ := fun W v' hW hv => iF W v' hW hv hl hz
  have q2 : ∀ W v', Sl W v' (ss l0) → _ := fun W v' hv => growPath_spec W v' l0 a1 hv (by omega) (fun s hs => by have := hz s hs; omega)
  have hRl := growPath_len l0 a1
  obtain ⟨R, hR⟩ : ∃ R, growPath l0 a1 = R := ⟨_, rfl⟩
  simp only [hR] at q1 q2 hRl
  clear hR hz iF hfit y0
  have B0 : Below w.heap.size w w := Below.refl _ _
  go_wp2_with fail
  refine (Strs.to_s w _ l0 (hs.later B0) (by omega)).mono ?_
  rintro e W1 ⟨v1, rfl, o_v1_1, b1⟩
  have s1 := b1.size
  have B1 : Below w.heap.size w W1 := B0.trans (b1.mono B0.size)
  go_wp2_with fail
  refine (q2 W1 _ o_v1_1.sl).mono ?_
  rintro e W2 ⟨vw, rfl, o_vw_2, b2⟩
  have s2 := b2.size
  have B2 : Below w.heap.size w W2 := B1.trans (b2.mono B1.size)
  have o_v1_2 := o_v1_1.later b2 (by omega)
  clear o_v1_1
  clear o_v1_2
  go_wp2_with fail
  refine (Strs.to_s W2 _ l0 (hs.later B2) (by omega)).mono ?_
  rintro e W3 ⟨x0, rfl, o_x0_3, b3⟩
  have s3 := b3.size
  have B3 : Below w.heap.size w W3 := B2.trans (b3.mono B2.size)
  have o_vw_3 := o_vw_2.later b3 (by omega)
  clear o_vw_2
  go_wp2_with fail
  refine (q1 W3 _ B3 o_x0_3.sl).mono ?_
  rintro e W4 ⟨g0, rfl, o_g0_4, b4⟩
  have s4 := b4.size
  have B4 : Below w.heap.size w W4 := B3.trans (b4.mono B3.size)
  have o_vw_4 := o_vw_3.later b4 (by omega)
  have o_x0_4 := o_x0_3.later b4 (by omega)
  clear o_vw_3 o_x0_3
  go_wp2_with fail
  refine (Strs.eqs_true W4 _ _ R o_g0_4.sl o_vw_4.sl (by omega)).mono ?_
  rintro e W5 ⟨rfl, b5, s5⟩
  have B5 : Below w.heap.size w W5 := B4.trans (b5 _)
  have o_vw_5 := o_vw_4.later (b5 _) (Nat.le_refl _)
  have o_x0_5 := o_x0_4.later (b5 _) (Nat.le_refl _)
  have o_g0_5 := o_g0_4.later (b5 _) (Nat.le_refl _)
  clear o_vw_4 o_x0_4 o_g0_4
  go_wp2_with fail
  refine (Strs.to_s W5 _ l0 (hs.later B5) (by omega)).mono ?_
  rintro e W6 ⟨t0, rfl, o_t0_6, b6⟩
  have s6 := b6.size
  have B6 : Below w.heap.size w W6 := B5.trans (b6.mono B5.size)
  have o_vw_6 := o_vw_5.later b6 (by omega)
  have o_x0_6 := o_x0_5.later b6 (by omega)
  have o_g0_6 := o_g0_5.later b6 (by omega)
  clear o_vw_5 o_x0_5 o_g0_5
  go_wp2_with fail
  refine (Strs.eqs_true W6 _ _ l0 o_x0_6.sl o_t0_6.sl (by omega)).mono ?_
  rintro e W7 ⟨rfl, b7, s7⟩
  have B7 : Below w.heap.size w W7 := B6.trans (b7 _)
  have o_vw_7 := o_vw_6.later (b7 _) (Nat.le_refl _)
  have o_x0_7 := o_x0_6.later (b7 _) (Nat.le_refl _)
  have o_g0_7 := o_g0_6.later (b7 _) (Nat.le_refl _)
  have o_t0_7 := o_t0_6.later (b7 _) (Nat.le_refl _)
  clear o_vw_6 o_x0_6 o_g0_6 o_t0_6
  clear o_t0_7
  go_wp2_with fail
  refine (Strs.marks_any W7 _ (W2.heap.size) (W3.heap.size) l0 1 o_x0_7 (by omega) (by omega) (by omega) (by omega)).mono ?_
  rintro e W8 ⟨rfl, o_x0_8, a8⟩
  have s8 := a8.size
  have B8 : Below w.heap.size w W8 := B7.trans (a8.below (by have := B7.size; omega) B7.size)
  have o_vw_8 := o_vw_7.apart a8 (by omega) (by omega)
  have o_g0_8 := o_g0_7.apart a8 (by omega) (by omega)
  clear o_vw_7 o_x0_7 o_g0_7
  clear o_x0_8
  go_wp2_with fail
  refine (Strs.eqs_true W8 _ _ R o_g0_8.sl o_vw_8.sl (by omega)).mono ?_
  rintro e W9 ⟨rfl, b9, s9⟩
  have B9 : Below w.heap.size w W9 := B8.trans (b9 _)
  have o_vw_9 := o_vw_8.later (b9 _) (Nat.le_refl _)
  have o_g0_9 := o_g0_8.later (b9 _) (Nat.le_refl _)
  clear o_vw_8 o_g0_8
  go_wp2_with fail
  refine (Strs.marks_any W9 _ (W3.heap.size) (W4.heap.size) R 1 o_g0_9 (by omega) (by omega) (by omega) (by omega)).mono ?_
  rintro e W10 ⟨rfl, o_g0_10, a10⟩
  have s10 := a10.size
  have B10 : Below w.heap.size w W10 := B9.trans (a10.below (by have := B9.size; omega) B9.size)
  have o_vw_10 := o_vw_9.apart a10 (by omega) (by omega)
  clear o_vw_9 o_g0_9
  go_wp2_with fail
  refine (Strs.helds_any W10 _ R.length 1 o_g0_10.sl (by omega) (by omega) (by omega)).mono ?_
  rintro e W11 ⟨rfl, b11⟩
  have s11 := b11.size
  have B11 : Below w.heap.size w W11 := B10.trans (b11.mono B10.size)
  have o_vw_11 := o_vw_10.later b11 (by omega)
  have o_g0_11 := o_g0_10.later b11 (by omega)
  clear o_vw_10 o_g0_10
  go_wp2_with fail
  refine (Strs.to_s W11 _ l0 (hs.later B11) (by omega)).mono ?_
  rintro e W12 ⟨t3, rfl, o_t3_12, b12⟩
  have s12 := b12.size
  have B12 : Below w.heap.size w W12 := B11.trans (b12.mono B11.size)
  have o_vw_12 := o_vw_11.later b12 (by omega)
  have o_g0_12 := o_g0_11.later b12 (by omega)
  clear o_vw_11 o_g0_11
  go_wp2_with fail
  refine (q1 W12 _ B12 o_t3_12.sl).mono ?_
  rintro e W13 ⟨hv, rfl, o_hv_13, b13⟩
  have s13 := b13.size
  have B13 : Below w.heap.size w W13 := B12.trans (b13.mono B12.size)
  have o_vw_13 := o_vw_12.later b13 (by omega)
  have o_g0_13 := o_g0_12.later b13 (by omega)
  have o_t3_13 := o_t3_12.later b13 (by omega)
  clear o_vw_12 o_g0_12 o_t3_12
  clear o_t3_13
  go_wp2_with fail
  refine (Strs.eqs_true W13 _ _ R o_hv_13.sl o_vw_13.sl (by omega)).mono ?_
  rintro e W14 ⟨rfl, b14, s14⟩
  have B14 : Below w.heap.size w W14 := B13.trans (b14 _)
  have o_vw_14 := o_vw_13.later (b14 _) (Nat.le_refl _)
  have o_g0_14 := o_g0_13.later (b14 _) (Nat.le_refl _)
  have o_hv_14 := o_hv_13.later (b14 _) (Nat.le_refl _)
  clear o_vw_13 o_g0_13 o_hv_13
  go_wp2_with fail
  refine (Strs.helds_any W14 _ R.length 1 o_g0_14.sl (by omega) (by omega) (by omega)).mono ?_
  rintro e W15 ⟨rfl, b15⟩
  have s15 := b15.size
  have B15 : Below w.heap.size w W15 := B14.trans (b15.mono B14.size)
  have o_vw_15 := o_vw_14.later b15 (by omega)
  have o_g0_15 := o_g0_14.later b15 (by omega)
  have o_hv_15 := o_hv_14.later b15 (by omega)
  clear o_vw_14 o_g0_14 o_hv_14
  go_wp2
  go_ret
  exact ⟨rfl, B15⟩

set_option maxRecDepth 1000000 in
set_option maxHeartbeats 4000000 in
theorem exact_checkin (w : World) (a0 : ByteArray) (a1 a2 : Int) (v3 : Value) (l3 : List ByteArray) (a4 : ByteArray) (w0 : a0.size ≤ maxLen) (h3 : Sl w v3 (ss l3)) (y3 : ∀ s ∈ l3, s.size ≤ maxLen) (m3 : l3.length ≤ maxLen) (w4 : a4.size ≤ maxLen)
    (iF : ∀ W v', Below w.heap.size w W → Sl W v' (ss l3) → a0.size ≤ 1048576 → a4.size ≤ 1048576 → l3.length ≤ 1048576 → (∀ s ∈ l3, s.size ≤ 1048576) → Calls Tryd.prog 21 #[.string a0, .int .i64 a1, .int .i64 a2, v', .string a4] W fun e w' => e = .returned (.bool (checkIn a0 a1 a2 l3 a4)) ∧ Below W.heap.size W w') :
    Calls Tryd.prog 6 #[.string a0, .int .i64 a1, .int .i64 a2, v3, .string a4] w fun e w' => e = .returned (.bool true) ∧ Below w.heap.size w w' := by
  have hs := h3
  obtain ⟨ao0, cap0, rfl, -, -, -⟩ := h3
  rw [ss_len] at hs ⊢
  unfold maxLen at *
  by_cases hba0 : 1048576 < a0.size
  · have hbb : (1048576 : Int) < (a0.size : Int) := by omega
    clear iF
    go_enter Tryd.func6, Tryd.ntmps6
    go_wp2
    go_ret
    exact ⟨rfl, Below.refl _ _⟩
  have hxa0 : ¬ (1048576 : Int) < (a0.size : Int) := by omega
  by_cases hba4 : 1048576 < a4.size
  · have hbb : (1048576 : Int) < (a4.size : Int) := by omega
    clear iF
    go_enter Tryd.func6, Tryd.ntmps6
    go_wp2
    go_ret
    exact ⟨rfl, Below.refl _ _⟩
  have hxa4 : ¬ (1048576 : Int) < (a4.size : Int) := by omega
  have hsz := Strs.sz_any w _ l3 1048576 hs y3 m3 (by omega)
  go_enter Tryd.func6, Tryd.ntmps6
  go_wp2_with fail
  refine hsz.mono ?_
  rintro e WX ⟨⟨r, rfl, hr⟩, hWX⟩
  subst hWX
  clear hsz
  rcases hr with hr | ⟨hfit, hr⟩
  · go_wp2
    go_ret
    exact ⟨rfl, Below.refl _ _⟩
  have hl : l3.length ≤ 1048576 := by omega
  have hz : ∀ s ∈ l3, s.size ≤ 1048576 := fun s hs => by have := mem_tot hs; omega
  have q1 : ∀ W v', Below w.heap.size w W → Sl W v' (ss l3) → _ := fun W v' hW hv => iF W v' hW hv (by omega) (by omega) hl hz
  have q2 : ∀ W v', Sl W v' (ss l3) → _ := fun W v' hv => checkIn_spec W v' a0 a1 a2 l3 a4 hv (by omega) (by omega) (fun s hs => by have := hz s hs; omega)
  obtain ⟨R, hR⟩ : ∃ R, checkIn a0 a1 a2 l3 a4 = R := ⟨_, rfl⟩
  simp only [hR] at q1 q2
  clear hR hz iF hfit y3
  have B0 : Below w.heap.size w w := Below.refl _ _
  go_wp2_with fail
  refine (Strs.to_s w _ l3 (hs.later B0) (by omega)).mono ?_
  rintro e W1 ⟨v1, rfl, o_v1_1, b1⟩
  have s1 := b1.size
  have B1 : Below w.heap.size w W1 := B0.trans (b1.mono B0.size)
  go_wp2_with fail
  refine (q2 W1 _ o_v1_1.sl).mono ?_
  rintro e W2 ⟨rfl, b2⟩
  have s2 := b2.size
  have B2 : Below w.heap.size w W2 := B1.trans (b2.mono B1.size)
  have o_v1_2 := o_v1_1.later b2 (by omega)
  clear o_v1_1
  clear o_v1_2
  go_wp2_with fail
  refine (Strs.to_s W2 _ l3 (hs.later B2) (by omega)).mono ?_
  rintro e W3 ⟨x0, rfl, o_x0_3, b3⟩
  have s3 := b3.size
  have B3 : Below w.heap.size w W3 := B2.trans (b3.mono B2.size)
  go_wp2_with fail
  refine (q1 W3 _ B3 o_x0_3.sl).mono ?_
  rintro e W4 ⟨rfl, b4⟩
  have s4 := b4.size
  have B4 : Below w.heap.size w W4 := B3.trans (b4.mono B3.size)
  have o_x0_4 := o_x0_3.later b4 (by omega)
  clear o_x0_3
  cases R
  · go_wp2_with fail
    refine (Strs.to_s W4 _ l3 (hs.later B4) (by omega)).mono ?_
    rintro e W5 ⟨t0, rfl, o_t0_5, b5⟩
    have s5 := b5.size
    have B5 : Below w.heap.size w W5 := B4.trans (b5.mono B4.size)
    have o_x0_5 := o_x0_4.later b5 (by omega)
    clear o_x0_4
    go_wp2_with fail
    refine (Strs.eqs_true W5 _ _ l3 o_x0_5.sl o_t0_5.sl (by omega)).mono ?_
    rintro e W6 ⟨rfl, b6, s6⟩
    have B6 : Below w.heap.size w W6 := B5.trans (b6 _)
    have o_x0_6 := o_x0_5.later (b6 _) (Nat.le_refl _)
    have o_t0_6 := o_t0_5.later (b6 _) (Nat.le_refl _)
    clear o_x0_5 o_t0_5
    clear o_t0_6
    go_wp2
    go_ret
    exact ⟨rfl, B6⟩
  · go_wp2_with fail
    refine (Strs.to_s W4 _ l3 (hs.later B4) (by omega)).mono ?_
    rintro e W5 ⟨t0, rfl, o_t0_5, b5⟩
    have s5 := b5.size
    have B5 : Below w.heap.size w W5 := B4.trans (b5.mono B4.size)
    have o_x0_5 := o_x0_4.later b5 (by omega)
    clear o_x0_4
    go_wp2_with fail
    refine (Strs.eqs_true W5 _ _ l3 o_x0_5.sl o_t0_5.sl (by omega)).mono ?_
    rintro e W6 ⟨rfl, b6, s6⟩
    have B6 : Below w.heap.size w W6 := B5.trans (b6 _)
    have o_x0_6 := o_x0_5.later (b6 _) (Nat.le_refl _)
    have o_t0_6 := o_t0_5.later (b6 _) (Nat.le_refl _)
    clear o_x0_5 o_t0_5
    clear o_t0_6
    go_wp2
    go_ret
    exact ⟨rfl, B6⟩

set_option maxRecDepth 1000000 in
set_option maxHeartbeats 4000000 in
theorem exact_checkgrow (w : World) (a0 a1 : Int) (a2 a3 : ByteArray) (v4 : Value) (l4 : List ByteArray) (w2 : a2.size ≤ maxLen) (w3 : a3.size ≤ maxLen) (h4 : Sl w v4 (ss l4)) (y4 : ∀ s ∈ l4, s.size ≤ maxLen) (m4 : l4.length ≤ maxLen)
    (iF : ∀ W v', Below w.heap.size w W → Sl W v' (ss l4) → a2.size ≤ 1048576 → a3.size ≤ 1048576 → l4.length ≤ 1048576 → (∀ s ∈ l4, s.size ≤ 1048576) → Calls Tryd.prog 25 #[.int .i64 a0, .int .i64 a1, .string a2, .string a3, v'] W fun e w' => e = .returned (.bool (checkGrow a0 a1 a2 a3 l4)) ∧ Below W.heap.size W w') :
    Calls Tryd.prog 8 #[.int .i64 a0, .int .i64 a1, .string a2, .string a3, v4] w fun e w' => e = .returned (.bool true) ∧ Below w.heap.size w w' := by
  have hs := h4
  obtain ⟨ao0, cap0, rfl, -, -, -⟩ := h4
  rw [ss_len] at hs ⊢
  unfold maxLen at *
  by_cases hba2 : 1048576 < a2.size
  · have hbb : (1048576 : Int) < (a2.size : Int) := by omega
    clear iF
    go_enter Tryd.func8, Tryd.ntmps8
    go_wp2
    go_ret
    exact ⟨rfl, Below.refl _ _⟩
  have hxa2 : ¬ (1048576 : Int) < (a2.size : Int) := by omega
  by_cases hba3 : 1048576 < a3.size
  · have hbb : (1048576 : Int) < (a3.size : Int) := by omega
    clear iF
    go_enter Tryd.func8, Tryd.ntmps8
    go_wp2
    go_ret
    exact ⟨rfl, Below.refl _ _⟩
  have hxa3 : ¬ (1048576 : Int) < (a3.size : Int) := by omega
  have hsz := Strs.sz_any w _ l4 1048576 hs y4 m4 (by omega)
  go_enter Tryd.func8, Tryd.ntmps8
  go_wp2_with fail
  refine hsz.mono ?_
  rintro e WX ⟨⟨r, rfl, hr⟩, hWX⟩
  subst hWX
  clear hsz
  rcases hr with hr | ⟨hfit, hr⟩
  · go_wp2
    go_ret
    exact ⟨rfl, Below.refl _ _⟩
  have hl : l4.length ≤ 1048576 := by omega
  have hz : ∀ s ∈ l4, s.size ≤ 1048576 := fun s hs => by have := mem_tot hs; omega
  have q1 : ∀ W v', Below w.heap.size w W → Sl W v' (ss l4) → _ := fun W v' hW hv => iF W v' hW hv (by omega) (by omega) hl hz
  have q2 : ∀ W v', Sl W v' (ss l4) → _ := fun W v' hv => checkGrow_spec W v' a0 a1 a2 a3 l4 hv (by omega) (by omega) (fun s hs => by have := hz s hs; omega)
  obtain ⟨R, hR⟩ : ∃ R, checkGrow a0 a1 a2 a3 l4 = R := ⟨_, rfl⟩
  simp only [hR] at q1 q2
  clear hR hz iF hfit y4
  have B0 : Below w.heap.size w w := Below.refl _ _
  go_wp2_with fail
  refine (Strs.to_s w _ l4 (hs.later B0) (by omega)).mono ?_
  rintro e W1 ⟨v1, rfl, o_v1_1, b1⟩
  have s1 := b1.size
  have B1 : Below w.heap.size w W1 := B0.trans (b1.mono B0.size)
  go_wp2_with fail
  refine (q2 W1 _ o_v1_1.sl).mono ?_
  rintro e W2 ⟨rfl, b2⟩
  have s2 := b2.size
  have B2 : Below w.heap.size w W2 := B1.trans (b2.mono B1.size)
  have o_v1_2 := o_v1_1.later b2 (by omega)
  clear o_v1_1
  clear o_v1_2
  go_wp2_with fail
  refine (Strs.to_s W2 _ l4 (hs.later B2) (by omega)).mono ?_
  rintro e W3 ⟨x0, rfl, o_x0_3, b3⟩
  have s3 := b3.size
  have B3 : Below w.heap.size w W3 := B2.trans (b3.mono B2.size)
  go_wp2_with fail
  refine (q1 W3 _ B3 o_x0_3.sl).mono ?_
  rintro e W4 ⟨rfl, b4⟩
  have s4 := b4.size
  have B4 : Below w.heap.size w W4 := B3.trans (b4.mono B3.size)
  have o_x0_4 := o_x0_3.later b4 (by omega)
  clear o_x0_3
  cases R
  · go_wp2_with fail
    refine (Strs.to_s W4 _ l4 (hs.later B4) (by omega)).mono ?_
    rintro e W5 ⟨t0, rfl, o_t0_5, b5⟩
    have s5 := b5.size
    have B5 : Below w.heap.size w W5 := B4.trans (b5.mono B4.size)
    have o_x0_5 := o_x0_4.later b5 (by omega)
    clear o_x0_4
    go_wp2_with fail
    refine (Strs.eqs_true W5 _ _ l4 o_x0_5.sl o_t0_5.sl (by omega)).mono ?_
    rintro e W6 ⟨rfl, b6, s6⟩
    have B6 : Below w.heap.size w W6 := B5.trans (b6 _)
    have o_x0_6 := o_x0_5.later (b6 _) (Nat.le_refl _)
    have o_t0_6 := o_t0_5.later (b6 _) (Nat.le_refl _)
    clear o_x0_5 o_t0_5
    clear o_t0_6
    go_wp2
    go_ret
    exact ⟨rfl, B6⟩
  · go_wp2_with fail
    refine (Strs.to_s W4 _ l4 (hs.later B4) (by omega)).mono ?_
    rintro e W5 ⟨t0, rfl, o_t0_5, b5⟩
    have s5 := b5.size
    have B5 : Below w.heap.size w W5 := B4.trans (b5.mono B4.size)
    have o_x0_5 := o_x0_4.later b5 (by omega)
    clear o_x0_4
    go_wp2_with fail
    refine (Strs.eqs_true W5 _ _ l4 o_x0_5.sl o_t0_5.sl (by omega)).mono ?_
    rintro e W6 ⟨rfl, b6, s6⟩
    have B6 : Below w.heap.size w W6 := B5.trans (b6 _)
    have o_x0_6 := o_x0_5.later (b6 _) (Nat.le_refl _)
    have o_t0_6 := o_t0_5.later (b6 _) (Nat.le_refl _)
    clear o_x0_5 o_t0_5
    clear o_t0_6
    go_wp2
    go_ret
    exact ⟨rfl, B6⟩

end Go.Proofs.YtljlcelbhlkmcanDoor.Tr

/- Contracts of the program's turns of words, as plain functions of natural numbers. -/
namespace Go.Proofs.YtljlcelbhlkmcanDoor.Sha
open Go.RowKit Go.Proofs.YtljlcelbhlkmcanDoor.Mem Go.Proofs.YtljlcelbhlkmcanDoor.Laws Go.Proofs.YtljlcelbhlkmcanDoor.Bytes
set_option linter.unusedVariables false
set_option linter.unusedSimpArgs false

theorem wraps32 (n : Int) (h0 : 0 ≤ n) (h1 : n < 2 ^ 32) : IntKind.u32.wrap n = n := by rw [IntKind.wrap_u32]; omega
theorem wrap32 (n : Nat) : IntKind.u32.wrap (n : Int) = ((n % 4294967296 : Nat) : Int) := by rw [IntKind.wrap_u32]; omega

theorem or32 {a b : Nat} (ha : a < 4294967296) (hb : b < 4294967296) : bits .or .u32 (a : Int) (b : Int) = ((a ||| b : Nat) : Int) := (bits_nat .u32 32 (by decide) wraps32 a b ha hb).2
theorem and32 {a b : Nat} (ha : a < 4294967296) (hb : b < 4294967296) : bits .and .u32 (a : Int) (b : Int) = ((a &&& b : Nat) : Int) := (bits_nat .u32 32 (by decide) wraps32 a b ha hb).1
theorem xor32 {a b : Nat} (ha : a < 4294967296) (hb : b < 4294967296) : bits .xor .u32 (a : Int) (b : Int) = ((a ^^^ b : Nat) : Int) := by
  have ha' : a % 2 ^ 32 = a := Nat.mod_eq_of_lt (by omega)
  have hb' : b % 2 ^ 32 = b := Nat.mod_eq_of_lt (by omega)
  have e : bits .xor .u32 (a : Int) (b : Int) = IntKind.u32.wrap (((BitVec.ofInt 32 (a : Int) ^^^ BitVec.ofInt 32 (b : Int)).toNat : Nat) : Int) := rfl
  rw [e, BitVec.ofInt_natCast, BitVec.ofInt_natCast, BitVec.toNat_xor, BitVec.toNat_ofNat, BitVec.toNat_ofNat, ha', hb']
  exact wraps32 _ (Int.natCast_nonneg _) (by have := Nat.xor_lt_two_pow (n := 32) ha hb; omega)

theorem turn_split (x n : Nat) (hx : x < 4294967296) : turn x n = (x * 2 ^ (32 - n) % 4294967296 ||| x / 2 ^ n) := by
  unfold turn
  have hd : x / 2 ^ n < 2 ^ 32 := Nat.lt_of_le_of_lt (Nat.div_le_self _ _) hx
  rw [show (4294967296 : Nat) = 2 ^ 32 by decide, Nat.or_mod_two_pow, Nat.mod_eq_of_lt hd, Nat.or_comm]

set_option maxRecDepth 1000000 in
set_option maxHeartbeats 400000 in
theorem rot_impl (w : World) (x n : Nat) (k : Int) (hk : bits .and .u64 (IntKind.u64.wrap k) 31 = ((32 - n : Nat) : Int)) (hx : x < 4294967296) (hn1 : 1 ≤ n) (hn2 : n ≤ 31) :
    Calls Tryd.prog 67 #[.int .u32 (x : Int), .int .i64 k] w fun e w' => e = .returned (.int .u32 (turn x n : Nat)) ∧ w = w' := by
  go_enter Tryd.func67, Tryd.ntmps67
  go_wp2
  go_ret
  refine ⟨congrArg (fun z => Ending.returned (.int .u32 z)) ?_, rfl⟩
  have e1 : (x : Int) * 2 ^ (32 - n) % 4294967296 = ((x * 2 ^ (32 - n) % 4294967296 : Nat) : Int) := by rw [Int.natCast_emod, Int.natCast_mul, Int.natCast_pow]; rfl
  have e2 : (x : Int) / 2 ^ (32 - (32 - n)) = ((x / 2 ^ n : Nat) : Int) := by rw [show 32 - (32 - n) = n by omega, Int.natCast_ediv, Int.natCast_pow]; rfl
  have hd : x / 2 ^ n < 4294967296 := Nat.lt_of_le_of_lt (Nat.div_le_self _ _) hx
  show bits .or .u32 ((x : Int) * 2 ^ (32 - n) % 4294967296) ((x : Int) / 2 ^ (32 - (32 - n))) = _
  rw [e1, e2, or32 (Nat.mod_lt _ (by decide)) hd, turn_split x n hx]

set_option maxRecDepth 1000000 in
set_option maxHeartbeats 400000 in
theorem turn_impl (w : World) (x n : Nat) (k : Int) (hkn : k = (n : Int)) (hk : bits .and .u64 (IntKind.u64.wrap (-k)) 31 = ((32 - n : Nat) : Int)) (hx : x < 4294967296) (hn1 : 1 ≤ n) (hn2 : n ≤ 31) :
    Calls Tryd.prog 66 #[.int .u32 (x : Int), .int .i64 k] w fun e w' => e = .returned (.int .u32 (turn x n : Nat)) ∧ w = w' := by
  have hk0 : 0 ≤ k := by omega
  have hk1 : k ≤ 31 := by omega
  have hr := rot_impl w x n (-k) hk hx hn1 hn2
  have hw : IntKind.i64.wrap (-k) = -k := by rw [IntKind.wrap_i64]; omega
  clear hk hkn
  go_enter Tryd.func66, Tryd.ntmps66
  go_wp2_with fail
  refine hr.mono ?_
  rintro e w' ⟨rfl, rfl⟩
  go_wp2
  go_ret
  exact ⟨rfl, rfl⟩

set_option maxRecDepth 1000000 in
set_option maxHeartbeats 400000 in
theorem s0_impl (w : World) (x : Nat) (hx : x < 4294967296) : Calls Tryd.prog 64 #[.int .u32 (x : Int)] w fun e w' => e = .returned (.int .u32 (s0w x : Nat)) ∧ w = w' := by
  have q1 := turn_impl w x 7 7 rfl (by decide) hx (by omega) (by omega)
  have q2 := turn_impl w x 18 18 rfl (by decide) hx (by omega) (by omega)
  have HB : Hid (bits .xor .u32 (bits .xor .u32 ((turn x 7 : Nat) : Int) ((turn x 18 : Nat) : Int)) ((x : Int) / 8) = ((s0w x : Nat) : Int)) := by
    show _ = _
    have e : (x : Int) / 8 = ((x / 8 : Nat) : Int) := by omega
    rw [e, xor32 (turn_lt _ _) (turn_lt _ _), xor32 (xl (turn_lt _ _) (turn_lt _ _)) (by omega)]; rfl
  go_enter Tryd.func64, Tryd.ntmps64
  go_wp2_with fail
  refine q1.mono ?_
  rintro e w' ⟨rfl, rfl⟩
  go_wp2_with fail
  refine q2.mono ?_
  rintro e w' ⟨rfl, rfl⟩
  go_wp2
  go_ret
  exact ⟨congrArg (fun z => Ending.returned (.int .u32 z)) HB.out, rfl⟩

set_option maxRecDepth 1000000 in
set_option maxHeartbeats 400000 in
theorem s1_impl (w : World) (x : Nat) (hx : x < 4294967296) : Calls Tryd.prog 65 #[.int .u32 (x : Int)] w fun e w' => e = .returned (.int .u32 (s1w x : Nat)) ∧ w = w' := by
  have q1 := turn_impl w x 17 17 rfl (by decide) hx (by omega) (by omega)
  have q2 := turn_impl w x 19 19 rfl (by decide) hx (by omega) (by omega)
  have HB : Hid (bits .xor .u32 (bits .xor .u32 ((turn x 17 : Nat) : Int) ((turn x 19 : Nat) : Int)) ((x : Int) / 1024) = ((s1w x : Nat) : Int)) := by
    show _ = _
    have e : (x : Int) / 1024 = ((x / 1024 : Nat) : Int) := by omega
    rw [e, xor32 (turn_lt _ _) (turn_lt _ _), xor32 (xl (turn_lt _ _) (turn_lt _ _)) (by omega)]; rfl
  go_enter Tryd.func65, Tryd.ntmps65
  go_wp2_with fail
  refine q1.mono ?_
  rintro e w' ⟨rfl, rfl⟩
  go_wp2_with fail
  refine q2.mono ?_
  rintro e w' ⟨rfl, rfl⟩
  go_wp2
  go_ret
  exact ⟨congrArg (fun z => Ending.returned (.int .u32 z)) HB.out, rfl⟩

set_option maxRecDepth 1000000 in
set_option maxHeartbeats 400000 in
theorem b0_impl (w : World) (x : Nat) (hx : x < 4294967296) : Calls Tryd.prog 60 #[.int .u32 (x : Int)] w fun e w' => e = .returned (.int .u32 (big0 x : Nat)) ∧ w = w' := by
  have q1 := turn_impl w x 2 2 rfl (by decide) hx (by omega) (by omega)
  have q2 := turn_impl w x 13 13 rfl (by decide) hx (by omega) (by omega)
  have q3 := turn_impl w x 22 22 rfl (by decide) hx (by omega) (by omega)
  have HB : Hid (bits .xor .u32 (bits .xor .u32 ((turn x 2 : Nat) : Int) ((turn x 13 : Nat) : Int)) ((turn x 22 : Nat) : Int) = ((big0 x : Nat) : Int)) := by
    show _ = _
    rw [xor32 (turn_lt _ _) (turn_lt _ _), xor32 (xl (turn_lt _ _) (turn_lt _ _)) (turn_lt _ _)]; rfl
  go_enter Tryd.func60, Tryd.ntmps60
  go_wp2_with fail
  refine q1.mono ?_
  rintro e w' ⟨rfl, rfl⟩
  go_wp2_with fail
  refine q2.mono ?_
  rintro e w' ⟨rfl, rfl⟩
  go_wp2_with fail
  refine q3.mono ?_
  rintro e w' ⟨rfl, rfl⟩
  go_wp2
  go_ret
  exact ⟨congrArg (fun z => Ending.returned (.int .u32 z)) HB.out, rfl⟩

set_option maxRecDepth 1000000 in
set_option maxHeartbeats 400000 in
theorem b1_impl (w : World) (x : Nat) (hx : x < 4294967296) : Calls Tryd.prog 58 #[.int .u32 (x : Int)] w fun e w' => e = .returned (.int .u32 (big1 x : Nat)) ∧ w = w' := by
  have q1 := turn_impl w x 6 6 rfl (by decide) hx (by omega) (by omega)
  have q2 := turn_impl w x 11 11 rfl (by decide) hx (by omega) (by omega)
  have q3 := turn_impl w x 25 25 rfl (by decide) hx (by omega) (by omega)
  have HB : Hid (bits .xor .u32 (bits .xor .u32 ((turn x 6 : Nat) : Int) ((turn x 11 : Nat) : Int)) ((turn x 25 : Nat) : Int) = ((big1 x : Nat) : Int)) := by
    show _ = _
    rw [xor32 (turn_lt _ _) (turn_lt _ _), xor32 (xl (turn_lt _ _) (turn_lt _ _)) (turn_lt _ _)]; rfl
  go_enter Tryd.func58, Tryd.ntmps58
  go_wp2_with fail
  refine q1.mono ?_
  rintro e w' ⟨rfl, rfl⟩
  go_wp2_with fail
  refine q2.mono ?_
  rintro e w' ⟨rfl, rfl⟩
  go_wp2_with fail
  refine q3.mono ?_
  rintro e w' ⟨rfl, rfl⟩
  go_wp2
  go_ret
  exact ⟨congrArg (fun z => Ending.returned (.int .u32 z)) HB.out, rfl⟩

set_option maxRecDepth 1000000 in
set_option maxHeartbeats 400000 in
theorem ch_impl (w : World) (e f g : Nat) (he : e < 4294967296) (hf : f < 4294967296) (hg : g < 4294967296) : Calls Tryd.prog 59 #[.int .u32 (e : Int), .int .u32 (f : Int), .int .u32 (g : Int)] w fun e' w' => e' = .returned (.int .u32 (ch e f g : Nat)) ∧ w = w' := by
  have HB : Hid (bits .xor .u32 (bits .and .u32 (e : Int) (f : Int)) (bits .and .u32 (bits .xor .u32 4294967295 (e : Int)) (g : Int)) = ((ch e f g : Nat) : Int)) := by
    show _ = _
    have e0 : (4294967295 : Int) = ((4294967295 : Nat) : Int) := rfl
    rw [e0, xor32 (by omega) he, and32 he hf, and32 (xl (by omega) he) hg, xor32 (al hf) (al hg)]; rfl
  go_enter Tryd.func59, Tryd.ntmps59
  go_wp2
  go_ret
  exact ⟨congrArg (fun z => Ending.returned (.int .u32 z)) HB.out, rfl⟩

set_option maxRecDepth 1000000 in
set_option maxHeartbeats 400000 in
theorem maj_impl (w : World) (a b c : Nat) (ha : a < 4294967296) (hb : b < 4294967296) (hc : c < 4294967296) : Calls Tryd.prog 61 #[.int .u32 (a : Int), .int .u32 (b : Int), .int .u32 (c : Int)] w fun e' w' => e' = .returned (.int .u32 (maj a b c : Nat)) ∧ w = w' := by
  have HB : Hid (bits .xor .u32 (bits .xor .u32 (bits .and .u32 (a : Int) (b : Int)) (bits .and .u32 (a : Int) (c : Int))) (bits .and .u32 (b : Int) (c : Int)) = ((maj a b c : Nat) : Int)) := by
    show _ = _
    rw [and32 ha hb, and32 ha hc, and32 hb hc, xor32 (al hb) (al hc), xor32 (xl (al hb) (al hc)) (al hc)]; rfl
  go_enter Tryd.func61, Tryd.ntmps61
  go_wp2
  go_ret
  exact ⟨congrArg (fun z => Ending.returned (.int .u32 z)) HB.out, rfl⟩

end Go.Proofs.YtljlcelbhlkmcanDoor.Sha
