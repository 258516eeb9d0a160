/- Chapter 6: the laws FnPaths and FnGrown, over contracts of the landed functions. -/
import Derived.Test.YthbonifpdpknnaaDoorTrL
namespace Go.Proofs.YthbonifpdpknnaaDoor.Tr
open Go.RowKit Go.Proofs.YthbonifpdpknnaaDoor.Mem Go.Proofs.YthbonifpdpknnaaDoor.Laws Go.Proofs.YthbonifpdpknnaaDoor.Bytes Go.Proofs.YthbonifpdpknnaaDoor.Sha Go.Proofs.YthbonifpdpknnaaDoor.Draw
set_option linter.unusedVariables false
set_option linter.unusedSimpArgs false

theorem ssOne (l : List ByteArray) : ∀ u ∈ ss l, u.oneCell' = true := by
  intro u hu
  simp only [ss, List.mem_map] at hu
  obtain ⟨s, _, rfl⟩ := hu
  rfl
theorem path_sizes (l : List ByteArray) : ∀ i : Nat, ∀ t ∈ path l i, t.size ≤ 32 := by
  refine lenRec (P := fun l => ∀ i : Nat, ∀ t ∈ path l i, t.size ≤ 32) ?_ l
  intro l ih i
  by_cases h : 2 ≤ l.length
  · have hk := half_ok h
    have hp := half_pos h
    intro t ht
    by_cases hi : i < half l.length
    · rw [path_low h hi] at ht
      rcases List.mem_append.1 ht with ht | ht
      · exact ih (l.take (half l.length)) (take_lt h) i t ht
      · simp at ht; rw [ht, root_size]; exact Nat.le_refl _
    · rw [path_high h hi] at ht
      rcases List.mem_append.1 ht with ht | ht
      · exact ih (l.drop (half l.length)) (drop_lt h) (i - half l.length) t ht
      · simp at ht; rw [ht, root_size]; exact Nat.le_refl _
  · rw [path_no h]
    intro t ht
    cases ht
theorem grow_sizes (l : List ByteArray) : ∀ (n : Nat) (whole : Bool), ∀ t ∈ grow l n whole, t.size ≤ 32 := by
  refine lenRec (P := fun l => ∀ (n : Nat) (whole : Bool), ∀ t ∈ grow l n whole, t.size ≤ 32) ?_ l
  intro l ih n whole
  by_cases hn : n = l.length
  · subst hn
    rw [grow_all]
    intro t ht
    cases whole
    · simp at ht; rw [ht, root_size]; exact Nat.le_refl _
    · simp at ht
  · by_cases h : 2 ≤ l.length
    · have hk := half_ok h
      have hp := half_pos h
      intro t ht
      by_cases hi : n ≤ half l.length
      · rw [grow_low h hn hi] at ht
        rcases List.mem_append.1 ht with ht | ht
        · exact ih (l.take (half l.length)) (take_lt h) n whole t ht
        · simp at ht; rw [ht, root_size]; exact Nat.le_refl _
      · rw [grow_high h hn hi] at ht
        rcases List.mem_append.1 ht with ht | ht
        · exact ih (l.drop (half l.length)) (drop_lt h) (n - half l.length) false t ht
        · simp at ht; rw [ht, root_size]; exact Nat.le_refl _
    · rw [grow_if, if_neg hn, if_neg h]
      intro t ht
      cases ht

theorem paths_facts {l : List ByteArray} {i : Nat} {s : ByteArray} (hl : l.length ≤ 200) (hs : l[i]? = some s) :
    checkIn s (i : Int) (l.length : Int) (path l i) (root l) = true ∧ checkIn s (i : Int) (l.length : Int) (path l i ++ [root l]) (root l) = false ∧ checkIn s (l.length : Int) (l.length : Int) (path l i) (root l) = false := by
  have hil : i < l.length := (List.getElem?_eq_some_iff.1 hs).1
  refine ⟨?_, ?_, ?_⟩
  · unfold checkIn
    rw [if_pos ⟨⟨by omega, by omega⟩, by omega, by omega⟩]
    simp only [Int.toNat_natCast]
    rw [up_path l i s hs]
    simp [eq6_same]
  · unfold checkIn
    rw [if_pos ⟨⟨by omega, by omega⟩, by omega, by omega⟩]
    simp only [Int.toNat_natCast]
    rw [up_len, List.length_append, path_len]
    simp
  · unfold checkIn
    rw [if_neg (by rintro ⟨_, _, h⟩; omega)]
theorem grown_facts {l : List ByteArray} {n : Nat} (hl : l.length ≤ 200) (h1 : 1 ≤ n) (hn : n < l.length) :
    checkGrow (n : Int) (l.length : Int) (root (l.take n)) (root l) (grow l n true) = true ∧ checkGrow (n : Int) (l.length : Int) (root (l.take n)) (root l) (grow l n true ++ [root l]) = false := by
  constructor
  · unfold checkGrow
    rw [if_pos ⟨by omega, by omega⟩, if_neg (by omega), if_pos ⟨by omega, by omega⟩]
    simp only [Int.toNat_natCast]
    rw [grown_grow l n true _ h1 (by omega) (fun _ => rfl)]
    simp [eq6_same]
  · unfold checkGrow
    rw [if_pos ⟨by omega, by omega⟩, if_neg (by omega), if_pos ⟨by omega, by omega⟩]
    simp only [Int.toNat_natCast]
    rw [grown_len _ _ _ _ _ h1 (by omega), List.length_append, grow_len]
    simp
theorem grown_self {m : Nat} (hm : m ≤ 200) (r : ByteArray) : checkGrow (m : Int) (m : Int) r r [] = true := by
  unfold checkGrow
  rw [if_pos ⟨by omega, by omega⟩, if_pos rfl]
  simp [eq6_same]
theorem grown_zero {m : Nat} (h1 : 1 ≤ m) (r : ByteArray) : checkGrow 0 (m : Int) r r [] = false := by
  unfold checkGrow
  split
  · rw [if_neg (by omega), if_neg (by omega)]
  · rfl

set_option maxRecDepth 1000000 in
set_option maxHeartbeats 4000000 in
theorem paths6 (w : World) (v0 : Value) (xs0 : List Int) (h0 : Sl w v0 (bs xs0)) (y0 : Byt xs0) (m0 : xs0.length ≤ maxLen)
    (iRoot : ∀ W, Below w.heap.size w W → ∀ (v' : Value) (l : List ByteArray), Sl W v' (ss l) → l.length ≤ 1000 → (∀ s ∈ l, s.size ≤ 1000) → Calls Tryd.prog 12 #[v'] W fun e w' => e = .returned (.string (rootOf l)) ∧ Below W.heap.size W w')
    (iIn : ∀ W, Below w.heap.size w W → ∀ (v' : Value) (l : List ByteArray) (i : Int), Sl W v' (ss l) → l.length ≤ 1000 → (∀ s ∈ l, s.size ≤ 1000) → Calls Tryd.prog 11 #[v', .int .i64 i] W fun e w' => ∃ v'', e = .returned v'' ∧ Own w' W.heap.size w'.heap.size 9 v'' (ss (inPath l i)) ∧ Below W.heap.size W w')
    (iCk : ∀ W, Below w.heap.size w W → ∀ (v' : Value) (s : ByteArray) (i n : Int) (p : List ByteArray) (r : ByteArray), Sl W v' (ss p) → p.length ≤ 1000 → s.size ≤ 1000 → r.size ≤ 1000 → (∀ t ∈ p, t.size ≤ 1000) → Calls Tryd.prog 13 #[.string s, .int .i64 i, .int .i64 n, v', .string r] W fun e w' => e = .returned (.bool (checkIn s i n p r)) ∧ Below W.heap.size W w') :
    Calls Tryd.prog 3 #[v0] w fun e w' => e = .returned (.bool true) ∧ Below w.heap.size w w' := by
  have hs := h0
  have hby := y0
  obtain ⟨ao0, cap0, rfl, -, -, -⟩ := h0
  rw [Mem.bs_len] at hs ⊢
  clear m0 y0
  by_cases hbig : 1048576 < xs0.length
  · have qb := big_yes w ao0 xs0.length cap0 hbig
    clear iRoot iIn iCk
    go_enter Tryd.func3, Tryd.ntmps3
    go_wp2_with fail
    refine qb.mono ?_
    rintro e w1 ⟨rfl, rfl⟩
    go_wp2
    go_ret
    exact ⟨rfl, Below.refl _ _⟩
  have qb := big_no w ao0 xs0.length cap0 hbig
  have qd := leaves_any w _ xs0 hs hby (by omega)
  obtain ⟨i0, hi, hz0, hz1, hz2⟩ := info_parts info9t
  clear hbig hs hby
  go_enter Tryd.func3, Tryd.ntmps3
  go_wp2_with fail
  refine qb.mono ?_
  rintro e wx ⟨rfl, rfl⟩
  go_wp2_with fail
  refine qd.mono ?_
  rintro e w1 ⟨v1, l, i, rfl, hl1, hl9, hil, hz, o1, B1⟩
  clear qb qd
  obtain ⟨b, off, cap, rfl, hcap⟩ := slForm o1.sl (by rw [ss_len]; omega)
  rw [ss_len] at *
  have HS1 : Hid (Sl w1 (.slice (some ⟨b, off, none⟩) l.length cap) (ss l)) := o1.sl
  have HZ : Hid (∀ s ∈ l, s.size ≤ 1000) := fun s hs => by have := hz s hs; omega
  obtain ⟨s, hs0⟩ : ∃ s, l[i]? = some s := ⟨l[i], by simp [hil]⟩
  have hsz := HZ.out s (List.mem_of_getElem? hs0)
  obtain ⟨f1, f2, f3⟩ := paths_facts (by omega) hs0
  have hpl := path_len l i
  have hdl := dep_le l.length i
  have HPZ : Hid (∀ t ∈ path l i, t.size ≤ 1000) := fun t ht => by have := path_sizes l i t ht; omega
  have hip : inPath l (i : Int) = path l i := by unfold inPath; rw [if_pos ⟨by omega, by omega, by omega⟩]; rfl
  have qI := iIn w1 B1 _ l (i : Int) HS1.out (by omega) HZ.out
  have qR : ∀ W, Below w1.heap.size w1 W → _ := fun W hW => iRoot W (B1.trans (hW.mono B1.size)) _ l (HS1.out.later hW) (by omega) HZ.out
  have hrz := root_size l
  rw [rootOf_small (by omega)] at qR
  rw [hip] at qI
  obtain ⟨r, hr⟩ : ∃ r, root l = r := ⟨_, rfl⟩
  obtain ⟨P, hP⟩ : ∃ r, path l i = r := ⟨_, rfl⟩
  simp only [hr, hP] at qR hrz f1 f2 f3 qI HPZ hpl
  have hP9 : P.length ≤ 9 := by omega
  have cell : ∀ W, Below w1.heap.size w1 W → W.cell? ⟨b, off + i, none⟩ = some (.string s) := fun W hW => slAt (HS1.out.later hW) hs0
  have HC : Hid (∀ W, Below w1.heap.size w1 W → W.cell? ⟨b, off + i, none⟩ = some (.string s)) := cell
  clear hr hP hip hpl hdl hz o1 hs0 cell
  go_wp2_with fail
  refine qI.mono ?_
  rintro e w2 ⟨vp, rfl, op, b2⟩
  obtain ⟨aop, capp, rfl⟩ := op.len
  rw [ss_len] at *
  have HSp : Hid (Sl w2 (.slice aop P.length capp) (ss P)) := op.sl
  clear qI op
  go_wp2_with fail
  refine (qR _ b2).mono ?_
  rintro e w3 ⟨rfl, b3⟩
  have b3x : Below w1.heap.size w1 w3 := b2.trans (b3.mono b2.size)
  have HSp3 : Hid (Sl w3 (.slice aop P.length capp) (ss P)) := HSp.out.later b3
  clear qR HSp b2 b3
  have oe := emptyT w3 w3.heap.size (Nat.le_refl _)
  have spe : ∀ o, Sl (w3.alloc o) (.slice aop P.length capp) (ss P) := fun o => HSp3.out.later ((Below.refl _ _).alloc (Nat.le_refl _) _)
  have c6 : (ss []).length + (ss P).length ≤ maxLen := by rw [ss_len, ss_len]; unfold maxLen; simp; omega
  have c7 : ((ss []).length + (ss P).length) * 16 ≤ 140737488355328 := by rw [ss_len, ss_len]; simp; omega
  have c8 : ∀ o, w3.heap.size ≤ (w3.alloc o).heap.size := fun o => by simp
  go_wp2_with (at_builtin; go_must (refine wpl_app _ rfl (.tmp 20) (.tmp 21) 24 rfl 9 i0 (.string ⟨#[]⟩) 16 Tryd.underlying24 hi hz0 hz1 hz2 rfl w3.heap.size _ (ss []) rfl oe _ rfl (ss P) (spe _) (ssOne _) c6 c7 (c8 _) ?_))
  intro v4 w4 ho4 hb4 hg4
  have s4 : w3.heap.size ≤ w4.heap.size := Nat.le_trans (c8 _) hb4.size
  have b4x : Below w3.heap.size w3 w4 := ((Below.refl _ _).alloc (Nat.le_refl _) _).trans hb4
  have d6 : (ss [] ++ ss P).length + 1 ≤ maxLen := by rw [List.length_append, ss_len, ss_len]; unfold maxLen; simp; omega
  have d7 : ((ss [] ++ ss P).length + 1) * 16 ≤ 140737488355328 := by rw [List.length_append, ss_len, ss_len]; simp; omega
  have d8 : ∀ o, w3.heap.size ≤ (w4.alloc o).heap.size := fun o => by simp; omega
  clear oe spe hg4 hb4
  go_wp2_with (at_builtin; go_must (refine wpl_app _ rfl (.tmp 22) (.tmp 24) 24 rfl 9 i0 (.string ⟨#[]⟩) 16 Tryd.underlying24 hi hz0 hz1 hz2 rfl w3.heap.size _ (ss [] ++ ss P) rfl (ho4.alloc _) _ rfl [.string r] (Sl.one _ _ _) (oneT _) d6 d7 (d8 _) ?_))
  intro v5 w5 ho5 hb5 hg5
  have b5x : Below w3.heap.size w3 w5 := (b4x.alloc b4x.size _).trans hb5
  have b5y : Below w1.heap.size w1 w5 := b3x.trans (b5x.mono b3x.size)
  have B5 : Below w.heap.size w w5 := B1.trans (b5y.mono B1.size)
  have HSm : Hid (Sl w5 v5 (ss (P ++ [r]))) := by
    have := ho5.sl
    show Sl _ _ _
    rw [ss_app]
    simpa [ss] using this
  have HSp5 : Hid (Sl w5 (.slice aop P.length capp) (ss P)) := HSp3.out.later b5x
  have k5 := HC.out w5 b5y
  have q1 := iCk w5 B5 _ s (i : Int) (l.length : Int) P r HSp5.out (by omega) hsz (by omega) HPZ.out
  rw [f1] at q1
  have vi : (i : Int) < (l.length : Int) := by omega
  clear ho4 ho5 hb5 hg5 d6 d7 d8 c6 c7 c8 HSp3 b4x s4
  go_wp2_with fail
  refine q1.mono ?_
  rintro e w6 ⟨rfl, b6⟩
  have b6y : Below w1.heap.size w1 w6 := b5y.trans (b6.mono b5y.size)
  have B6 : Below w.heap.size w w6 := B1.trans (b6y.mono B1.size)
  have k6 := HC.out w6 b6y
  have q2 := iCk w6 B6 _ s (i : Int) (l.length : Int) (P ++ [r]) r (HSm.out.later b6) (by simp; omega) hsz (by omega) (fun t ht => by
    rcases List.mem_append.1 ht with ht | ht
    · exact HPZ.out t ht
    · simp at ht; rw [ht]; omega)
  rw [f2] at q2
  have HSp6 : Hid (Sl w6 (.slice aop P.length capp) (ss P)) := HSp5.out.later b6
  clear q1 k5 HSp5 HSm b6
  go_wp2_with fail
  refine q2.mono ?_
  rintro e w7 ⟨rfl, b7⟩
  have b7y : Below w1.heap.size w1 w7 := b6y.trans (b7.mono b6y.size)
  have B7 : Below w.heap.size w w7 := B1.trans (b7y.mono B1.size)
  have k7 := HC.out w7 b7y
  have q3 := iCk w7 B7 _ s (l.length : Int) (l.length : Int) P r (HSp6.out.later b7) (by omega) hsz (by omega) HPZ.out
  rw [f3] at q3
  clear q2 k6 HSp6 b7
  go_wp2_with fail
  refine q3.mono ?_
  rintro e w8 ⟨rfl, b8⟩
  have B8 : Below w.heap.size w w8 := B7.trans (b8.mono B7.size)
  clear q3 b8
  go_wp2
  go_ret
  exact ⟨rfl, B8⟩

set_option maxRecDepth 1000000 in
set_option maxHeartbeats 4000000 in
theorem grown6 (w : World) (v0 : Value) (xs0 : List Int) (h0 : Sl w v0 (bs xs0)) (y0 : Byt xs0) (m0 : xs0.length ≤ maxLen)
    (iRoot : ∀ W, Below w.heap.size w W → ∀ (v' : Value) (l : List ByteArray), Sl W v' (ss l) → l.length ≤ 1000 → (∀ s ∈ l, s.size ≤ 1000) → Calls Tryd.prog 12 #[v'] W fun e w' => e = .returned (.string (rootOf l)) ∧ Below W.heap.size W w')
    (iGp : ∀ W, Below w.heap.size w W → ∀ (v' : Value) (l : List ByteArray) (n : Int), Sl W v' (ss l) → l.length ≤ 1000 → (∀ s ∈ l, s.size ≤ 1000) → Calls Tryd.prog 15 #[v', .int .i64 n] W fun e w' => ∃ v'', e = .returned v'' ∧ Own w' W.heap.size w'.heap.size 9 v'' (ss (growPath l n)) ∧ Below W.heap.size W w')
    (iCg : ∀ W, Below w.heap.size w W → ∀ (v' : Value) (n m : Int) (a b : ByteArray) (p : List ByteArray), Sl W v' (ss p) → p.length ≤ 1000 → a.size ≤ 1000 → b.size ≤ 1000 → (∀ t ∈ p, t.size ≤ 1000) → Calls Tryd.prog 14 #[.int .i64 n, .int .i64 m, .string a, .string b, v'] W fun e w' => e = .returned (.bool (checkGrow n m a b p)) ∧ Below W.heap.size W w') :
    Calls Tryd.prog 4 #[v0] w fun e w' => e = .returned (.bool true) ∧ Below w.heap.size w w' := by
  have hs := h0
  have hby := y0
  obtain ⟨ao0, cap0, rfl, -, -, -⟩ := h0
  rw [Mem.bs_len] at hs ⊢
  clear m0 y0
  by_cases hbig : 1048576 < xs0.length
  · have qb := big_yes w ao0 xs0.length cap0 hbig
    clear iRoot iGp iCg
    go_enter Tryd.func4, Tryd.ntmps4
    go_wp2_with fail
    refine qb.mono ?_
    rintro e w1 ⟨rfl, rfl⟩
    go_wp2
    go_ret
    exact ⟨rfl, Below.refl _ _⟩
  have qb := big_no w ao0 xs0.length cap0 hbig
  have qd := leaves_any w _ xs0 hs hby (by omega)
  obtain ⟨i0, hi, hz0, hz1, hz2⟩ := info_parts info9t
  clear hbig hs hby
  go_enter Tryd.func4, Tryd.ntmps4
  go_wp2_with fail
  refine qb.mono ?_
  rintro e wx ⟨rfl, rfl⟩
  go_wp2_with fail
  refine qd.mono ?_
  rintro e w1 ⟨v1, l, n, rfl, hl1, hl9, hil, hz, o1, B1⟩
  clear qb qd
  obtain ⟨b, off, cap, rfl, hcap⟩ := slForm o1.sl (by rw [ss_len]; omega)
  rw [ss_len] at *
  have HS1 : Hid (Sl w1 (.slice (some ⟨b, off, none⟩) l.length cap) (ss l)) := o1.sl
  have HZ : Hid (∀ s ∈ l, s.size ≤ 1000) := fun s hs => by have := hz s hs; omega
  have qR := iRoot w1 B1 _ l HS1.out (by omega) HZ.out
  have hrz := root_size l
  rw [rootOf_small (by omega)] at qR
  have f1 := grown_self (m := l.length) (by omega) (root l)
  have f2 := grown_zero (m := l.length) hl1 (root l)
  have HF : Hid (1 ≤ n → checkGrow (n : Int) (l.length : Int) (root (l.take n)) (root l) (grow l n true) = true ∧ checkGrow (n : Int) (l.length : Int) (root (l.take n)) (root l) (grow l n true ++ [root l]) = false) := fun h => grown_facts (by omega) h hil
  obtain ⟨r, hr⟩ : ∃ r, root l = r := ⟨_, rfl⟩
  simp only [hr] at qR hrz f1 f2 HF
  clear hr hz o1
  go_wp2_with fail
  refine qR.mono ?_
  rintro e w2 ⟨rfl, b2⟩
  have B2 : Below w.heap.size w w2 := B1.trans (b2.mono B1.size)
  clear qR
  have q1 := iCg (w2.alloc (.cells #[] 9)) (B2.alloc B2.size _) _ (l.length : Int) (l.length : Int) r r [] (emptyT w2 w2.heap.size (Nat.le_refl _)).sl (by simp) (by omega) (by omega) (fun t ht => by cases ht)
  rw [f1] at q1
  have ba : Below w1.heap.size w1 (w2.alloc (.cells #[] 9)) := b2.alloc b2.size _
  go_wp2_with fail
  refine q1.mono ?_
  rintro e w3 ⟨rfl, b3⟩
  have b3x : Below w1.heap.size w1 w3 := ba.trans (b3.mono ba.size)
  have B3 : Below w.heap.size w w3 := B1.trans (b3x.mono B1.size)
  clear q1 ba b2 B2 b3
  have q2 := iCg (w3.alloc (.cells #[] 9)) (B3.alloc B3.size _) _ 0 (l.length : Int) r r [] (emptyT w3 w3.heap.size (Nat.le_refl _)).sl (by simp) (by omega) (by omega) (fun t ht => by cases ht)
  rw [f2] at q2
  have ba : Below w1.heap.size w1 (w3.alloc (.cells #[] 9)) := b3x.alloc b3x.size _
  go_wp2_with fail
  refine q2.mono ?_
  rintro e w4 ⟨rfl, b4⟩
  have b4x : Below w1.heap.size w1 w4 := ba.trans (b4.mono ba.size)
  have B4 : Below w.heap.size w w4 := B1.trans (b4x.mono B1.size)
  clear q2 ba b3x B3 b4
  by_cases h0 : n = 0
  · have q3 := iGp w4 B4 _ l 0 (HS1.out.later b4x) (by omega) HZ.out
    rw [show growPath l 0 = [] by unfold growPath; rw [if_neg (by omega)]] at q3
    subst h0
    clear HF
    go_wp2_with fail
    refine q3.mono ?_
    rintro e w5 ⟨v5, rfl, o5, b5⟩
    obtain ⟨ao5, cap5, rfl⟩ := o5.len
    rw [ss_len] at *
    have B5 : Below w.heap.size w w5 := B4.trans (b5.mono B4.size)
    clear q3 o5
    go_wp2
    go_ret
    exact ⟨rfl, B5⟩
  · have hn1 : 1 ≤ n := by omega
    have d0 : ((n : Int) == 0) = false := by rw [beq_eq_false_iff_ne]; omega
    obtain ⟨f3, f4⟩ := HF.out hn1
    have q3 := iGp w4 B4 _ l (n : Int) (HS1.out.later b4x) (by omega) HZ.out
    rw [show growPath l (n : Int) = grow l n true by unfold growPath; rw [if_pos ⟨by omega, by omega, by omega⟩]; rfl] at q3
    have hpl := grow_len l n true
    have hdl := gdep_le l.length n true
    have hpp := grow_pos (l := l) hn1 hil true
    have HPZ : Hid (∀ t ∈ grow l n true, t.size ≤ 1000) := fun t ht => by have := grow_sizes l n true t ht; omega
    have t1 : Sl w1 (.slice (some ⟨b, off, none⟩) n cap) (ss (l.take n)) := by rw [← ss_take]; exact HS1.out.front n (by rw [ss_len]; omega)
    have qA : ∀ W, Below w1.heap.size w1 W → _ := fun W hW => iRoot W (B1.trans (hW.mono B1.size)) _ (l.take n) (t1.later hW) (by rw [List.length_take]; omega) (fun s hs => HZ.out s (List.mem_of_mem_take hs))
    rw [rootOf_small (by rw [List.length_take]; omega)] at qA
    have haz := root_size (l.take n)
    obtain ⟨a, hA⟩ : ∃ r, root (l.take n) = r := ⟨_, rfl⟩
    obtain ⟨P, hP⟩ : ∃ r, grow l n true = r := ⟨_, rfl⟩
    simp only [hA, hP] at qA haz f3 f4 q3 hpl hpp HPZ
    have hP9 : P.length ≤ 10 := by omega
    have hPp : 0 < P.length := hpp
    have v1 : (n : Int) ≤ (cap : Int) := by omega
    have v2 : (n : Int) ≤ (l.length : Int) := by omega
    clear HF hA hP hpl hdl hpp t1 h0
    go_wp2_with fail
    refine q3.mono ?_
    rintro e w5 ⟨vp, rfl, op, b5⟩
    obtain ⟨aop, capp, rfl⟩ := op.len
    rw [ss_len] at *
    have HSp : Hid (Sl w5 (.slice aop P.length capp) (ss P)) := op.sl
    have b5x : Below w1.heap.size w1 w5 := b4x.trans (b5.mono b4x.size)
    clear q3 op b5 b4x B4
    go_wp2_with fail
    refine (qA _ b5x).mono ?_
    rintro e w6 ⟨rfl, b6⟩
    have b6x : Below w1.heap.size w1 w6 := b5x.trans (b6.mono b5x.size)
    have HSp6 : Hid (Sl w6 (.slice aop P.length capp) (ss P)) := HSp.out.later b6
    clear qA HSp b6 b5x
    have oe := emptyT w6 w6.heap.size (Nat.le_refl _)
    have spe : ∀ o, Sl (w6.alloc o) (.slice aop P.length capp) (ss P) := fun o => HSp6.out.later ((Below.refl _ _).alloc (Nat.le_refl _) _)
    have c6 : (ss []).length + (ss P).length ≤ maxLen := by rw [ss_len, ss_len]; unfold maxLen; simp; omega
    have c7 : ((ss []).length + (ss P).length) * 16 ≤ 140737488355328 := by rw [ss_len, ss_len]; simp; omega
    have c8 : ∀ o, w6.heap.size ≤ (w6.alloc o).heap.size := fun o => by simp
    go_wp2_with (at_builtin; go_must (refine wpl_app _ rfl (.tmp 48) (.tmp 49) 24 rfl 9 i0 (.string ⟨#[]⟩) 16 Tryd.underlying24 hi hz0 hz1 hz2 rfl w6.heap.size _ (ss []) rfl oe _ rfl (ss P) (spe _) (ssOne _) c6 c7 (c8 _) ?_))
    intro v7 w7 ho7 hb7 hg7
    have s7 : w6.heap.size ≤ w7.heap.size := Nat.le_trans (c8 _) hb7.size
    have b7x : Below w6.heap.size w6 w7 := ((Below.refl _ _).alloc (Nat.le_refl _) _).trans hb7
    have d6 : (ss [] ++ ss P).length + 1 ≤ maxLen := by rw [List.length_append, ss_len, ss_len]; unfold maxLen; simp; omega
    have d7 : ((ss [] ++ ss P).length + 1) * 16 ≤ 140737488355328 := by rw [List.length_append, ss_len, ss_len]; simp; omega
    have d8 : ∀ o, w6.heap.size ≤ (w7.alloc o).heap.size := fun o => by simp; omega
    clear oe spe hg7 hb7
    go_wp2_with (at_builtin; go_must (refine wpl_app _ rfl (.tmp 50) (.tmp 52) 24 rfl 9 i0 (.string ⟨#[]⟩) 16 Tryd.underlying24 hi hz0 hz1 hz2 rfl w6.heap.size _ (ss [] ++ ss P) rfl (ho7.alloc _) _ rfl [.string r] (Sl.one _ _ _) (oneT _) d6 d7 (d8 _) ?_))
    intro v8 w8 ho8 hb8 hg8
    have b8x : Below w6.heap.size w6 w8 := (b7x.alloc b7x.size _).trans hb8
    have b8y : Below w1.heap.size w1 w8 := b6x.trans (b8x.mono b6x.size)
    have B8 : Below w.heap.size w w8 := B1.trans (b8y.mono B1.size)
    have HSm : Hid (Sl w8 v8 (ss (P ++ [r]))) := by
      have := ho8.sl
      show Sl _ _ _
      rw [ss_app]
      simpa [ss] using this
    have HSp8 : Hid (Sl w8 (.slice aop P.length capp) (ss P)) := HSp6.out.later b8x
    have q4 := iCg w8 B8 _ (n : Int) (l.length : Int) a r P HSp8.out (by omega) (by omega) (by omega) HPZ.out
    rw [f3] at q4
    clear ho7 ho8 hb8 hg8 d6 d7 d8 c6 c7 c8 HSp6 b7x s7 b8x b6x
    go_wp2_with fail
    refine q4.mono ?_
    rintro e w9 ⟨rfl, b9⟩
    have B9 : Below w.heap.size w w9 := B8.trans (b9.mono B8.size)
    have q5 := iCg w9 B9 _ (n : Int) (l.length : Int) a r (P ++ [r]) (HSm.out.later b9) (by simp; omega) (by omega) (by omega) (fun t ht => by
      rcases List.mem_append.1 ht with ht | ht
      · exact HPZ.out t ht
      · simp at ht; rw [ht]; omega)
    rw [f4] at q5
    clear q4 HSm b9 HSp8
    go_wp2_with fail
    refine q5.mono ?_
    rintro e w10 ⟨rfl, b10⟩
    have B10 : Below w.heap.size w w10 := B9.trans (b10.mono B9.size)
    have vP : (0 : Int) < (P.length : Int) := by omega
    clear q5 b10
    go_wp2
    go_ret
    exact ⟨rfl, B10⟩

end Go.Proofs.YthbonifpdpknnaaDoor.Tr
