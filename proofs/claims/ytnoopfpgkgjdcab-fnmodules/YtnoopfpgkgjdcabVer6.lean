/- Chapter 3, the specification's side: which of two versions is less. -/
import Derived.Test.YtnoopfpgkgjdcabVer5
import Derived.Deep.QuietTactic
namespace Go.Proofs.Ytnoopfpgkgjdcab.Ver
set_option linter.unusedVariables false
set_option linter.unusedSimpArgs false
open Go.RowKit Go.Proofs.Ytnoopfpgkgjdcab.Mem Go.Proofs.Ytnoopfpgkgjdcab.Laws Go.Proofs.Ytnoopfpgkgjdcab.Bytes Go.Proofs.Ytnoopfpgkgjdcab.Sha

/-- two texts: byte by byte less; the same -/
def ltT (a b : ByteArray) : Bool := Op.bytesLess a.toList b.toList
def eqT (a b : ByteArray) : Bool := a.toList == b.toList
def lessPart (a b : ByteArray) : Bool :=
  if 0 ≤ number (sb a) then (if 0 ≤ number (sb b) then decide (number (sb a) < number (sb b)) else true) else (if 0 ≤ number (sb b) then false else ltT a b)
def lessL : List ByteArray → List ByteArray → Bool
  | [], [] => false
  | [], _ :: _ => true
  | _ :: _, [] => false
  | t :: r, u :: q => if eqT t u = true then lessL r q else lessPart t u
def lessPre (a b : ByteArray) : Bool := lessL (splitT 46 a) (splitT 46 b)

theorem quiet_eqv {P : Program} {f : FuncId} {args : Array Value} {w : World} {n : Nat} {v : Value}
    (h : Calls P f args (w.drewN n) fun e w' => e = .returned v ∧ w.drewN n = w') : Calls P f args (w.drewN n) fun e w'' => e = .returned v ∧ ∃ m, w'' = w.drewN m :=
  h.mono fun _ _ ⟨he, hm⟩ => ⟨he, n, hm.symm⟩

set_option maxRecDepth 1000000 in
set_option maxHeartbeats 1000000 in
theorem lessPart_spec (w : World) (a b : ByteArray) (ha : a.size ≤ 10000000000000) (hb : b.size ≤ 10000000000000) :
    Calls Try.prog 47 #[.string a, .string b] w fun e w' => e = .returned (.bool (lessPart a b)) ∧ w = w' := by
  have q1 := number_spec w a ha
  have q2 := number_spec w b hb
  have hl : Op.bytesLess a.toList b.toList = ltT a b := rfl
  have HL : Hid (lessPart a b = if 0 ≤ number (sb a) then (if 0 ≤ number (sb b) then decide (number (sb a) < number (sb b)) else true) else (if 0 ≤ number (sb b) then false else ltT a b)) := rfl
  obtain ⟨x, hx⟩ : ∃ x, number (sb a) = x := ⟨_, rfl⟩
  obtain ⟨y, hy⟩ : ∃ y, number (sb b) = y := ⟨_, rfl⟩
  rw [hx] at q1 HL
  rw [hy] at q2 HL
  clear hx hy
  go_enter Try.func47, Try.ntmps47
  go_wp2_with fail
  refine q1.mono ?_
  rintro e w' ⟨rfl, rfl⟩
  go_wp2_with fail
  refine q2.mono ?_
  rintro e w' ⟨rfl, rfl⟩
  clear q1 q2
  by_cases h1 : 0 ≤ x
  · have d1 : decide (0 ≤ x) = true := by simpa using h1
    by_cases h2 : 0 ≤ y
    · have d2 : decide (0 ≤ y) = true := by simpa using h2
      have HF : Hid (lessPart a b = decide (x < y)) := by show _ = _; rw [HL.out, if_pos h1, if_pos h2]
      clear HL h1 h2
      go_wp2
      go_ret
      exact ⟨by rw [HF.out]; rfl, rfl⟩
    · have d2 : decide (0 ≤ y) = false := by simpa using h2
      have HF : Hid (lessPart a b = true) := by show _ = _; rw [HL.out, if_pos h1, if_neg h2]
      clear HL h1 h2
      go_wp2
      go_ret
      exact ⟨by rw [HF.out]; rfl, rfl⟩
  · have d1 : decide (0 ≤ x) = false := by simpa using h1
    by_cases h2 : 0 ≤ y
    · have d2 : decide (0 ≤ y) = true := by simpa using h2
      have HF : Hid (lessPart a b = false) := by show _ = _; rw [HL.out, if_neg h1, if_pos h2]
      clear HL h1 h2
      go_wp2
      go_ret
      exact ⟨by rw [HF.out]; rfl, rfl⟩
    · have d2 : decide (0 ≤ y) = false := by simpa using h2
      have HF : Hid (lessPart a b = ltT a b) := by show _ = _; rw [HL.out, if_neg h1, if_neg h2]
      clear HL h1 h2
      go_wp2
      go_ret
      exact ⟨by rw [HF.out]; rfl, rfl⟩

theorem drop_consS {l : List ByteArray} {k : Nat} {c : ByteArray} (hc : l[k]? = some c) : l.drop k = c :: l.drop (k + 1) := by
  obtain ⟨hk, rfl⟩ := List.getElem?_eq_some_iff.1 hc
  rw [List.drop_eq_getElem_cons hk]
theorem splitT_pos (b : Int) (s : ByteArray) : 0 < (splitT b s).length := by
  unfold splitT
  rw [List.length_map]
  exact splitL_pos b (sb s) []
theorem lessL_end {T U : List ByteArray} {k : Nat} (h : T.length ≤ k ∨ U.length ≤ k) : lessL (T.drop k) (U.drop k) = decide ((T.drop k).length < (U.drop k).length) := by
  rcases h with h | h
  · rw [List.drop_eq_nil_of_le h]
    cases U.drop k with
    | nil => rfl
    | cons x r => simp [lessL]
  · rw [List.drop_eq_nil_of_le h]
    cases T.drop k with
    | nil => rfl
    | cons x r => simp [lessL]

set_option maxRecDepth 1000000 in
set_option maxHeartbeats 2000000 in
theorem lessPre_spec (w : World) (a b : ByteArray) (ha : a.size ≤ 1000000000000) (hb : b.size ≤ 1000000000000) :
    Calls Try.prog 28 #[.string a, .string b] w fun e w' => e = .returned (.bool (lessPre a b)) ∧ Below w.heap.size w w' := by
  go_enter Try.func28, Try.ntmps28
  go_wp2_with fail
  refine (split_spec w a 46 (by omega) (by omega) ha).mono ?_
  rintro e w1 ⟨v1, rfl, o1, b1⟩
  go_wp2_with fail
  refine (split_spec w1 b 46 (by omega) (by omega) hb).mono ?_
  rintro e w2 ⟨v2, rfl, o2, b2⟩
  have o1' := o1.later b2 (Nat.le_refl _)
  have hBw : Below w.heap.size w w2 := b1.trans (b2.mono b1.size)
  have HP : Hid (lessPre a b = lessL (splitT 46 a) (splitT 46 b)) := rfl
  have hT0 := splitT_pos 46 a
  have hU0 := splitT_pos 46 b
  have hTs := splitT_size 46 a
  have hUs := splitT_size 46 b
  have hTl := splitT_len 46 a
  have hUl := splitT_len 46 b
  obtain ⟨T, hT⟩ : ∃ T, splitT 46 a = T := ⟨_, rfl⟩
  obtain ⟨U, hU⟩ : ∃ U, splitT 46 b = U := ⟨_, rfl⟩
  rw [hT] at o1' HP hT0 hTs hTl
  rw [hU] at o2 HP hU0 hUs hUl
  obtain ⟨g, cap, rfl, hg1, hg2, hcap, hc⟩ := ownForm o1' (by rw [ss_len]; exact hT0)
  obtain ⟨g', cap', rfl, hg1', hg2', hcap', hc'⟩ := ownForm o2 (by rw [ss_len]; exact hU0)
  rw [ss_len] at hcap hc hcap' hc'
  rw [ss_len, ss_len]
  have HC : Hid ((∀ j, j < T.length → w2.cell? ⟨g, j, none⟩ = (ss T)[j]?) ∧ (∀ j, j < U.length → w2.cell? ⟨g', j, none⟩ = (ss U)[j]?) ∧ (∀ t ∈ T, t.size ≤ a.size) ∧ ∀ t ∈ U, t.size ≤ b.size) := ⟨hc, hc', hTs, hUs⟩
  clear hT hU hTs hUs hc hc' o1 o1' o2
  go_wp2
  go_loopw [7] (fun i wr => ∃ (k m : Nat), k ≤ T.length ∧ k ≤ U.length ∧ i = .int .i64 (k : Int) ∧ Hid (lessL (T.drop k) (U.drop k) = lessL T U) ∧ wr = w2.drewN m) (fun i _ => T.length - (intOf i).toNat)
  case atStart => exact ⟨0, 0, Nat.zero_le _, Nat.zero_le _, rfl, rfl, rfl⟩
  case round =>
    obtain ⟨k, m, hk1, hk2, rfl, HE, rfl⟩ := hrel
    by_cases h1 : k < T.length
    · have d1 : decide ((k : Int) < (T.length : Int)) = true := by simp; omega
      by_cases h2 : k < U.length
      · have d2 : decide ((k : Int) < (U.length : Int)) = true := by simp; omega
        obtain ⟨t, ht⟩ : ∃ t, T[k]? = some t := ⟨T[k], by simp [h1]⟩
        obtain ⟨u, hu⟩ : ∃ u, U[k]? = some u := ⟨U[k], by simp [h2]⟩
        have c1 : w2.cell? ⟨g, k, none⟩ = some (.string t) := by rw [HC.out.1 k h1, ss_get, ht]; rfl
        have c2 : w2.cell? ⟨g', k, none⟩ = some (.string u) := by rw [HC.out.2.1 k h2, ss_get, hu]; rfl
        have z1 := HC.out.2.2.1 t (List.mem_of_getElem? ht)
        have z2 := HC.out.2.2.2 u (List.mem_of_getElem? hu)
        have HE2 : Hid (lessL T U = if eqT t u = true then lessL (T.drop (k + 1)) (U.drop (k + 1)) else lessPart t u) := by
          show _ = _; rw [← HE.out, drop_consS ht, drop_consS hu, lessL]
        have v0 : (0 : Int) ≤ (k : Int) := by omega
        have v1 : (k : Int) < (T.length : Int) := by omega
        have v2 : (k : Int) < (U.length : Int) := by omega
        clear ht hu HE
        by_cases he : eqT t u = true
        · have he' : (t.toList == u.toList) = true := he
          have HN : Hid (lessL (T.drop (k + 1)) (U.drop (k + 1)) = lessL T U) := by show _ = _; rw [HE2.out, if_pos he]
          clear he HE2
          go_wp2_with fail
          go_quiet (fail)
          generalize nq = N1
          go_wp2
          go_roundw
          case rel => exact ⟨k + 1, m + N1, by omega, by omega, by go_num, HN, by first | rfl | (rw [World.drewN_drewN])⟩
          case measure => simp [intOf]; omega
        · have he' : (t.toList == u.toList) = false := by simpa [eqT] using he
          have HN : Hid (lessPre a b = lessPart t u) := by show _ = _; rw [HP.out, HE2.out, if_neg he]
          have q : ∀ W, _ := fun W => lessPart_spec W t u (by omega) (by omega)
          clear he HE2
          go_wp2_with fail
          go_quiet (fail)
          generalize nq = N1
          go_wp2_with fail
          obtain ⟨wz, hwz⟩ : ∃ z, z = (w2.drewN m).drewN N1 := ⟨_, rfl⟩
          have c1' : wz.cell? ⟨g, k, none⟩ = some (.string t) := by rw [hwz]; exact c1
          have c2' : wz.cell? ⟨g', k, none⟩ = some (.string u) := by rw [hwz]; exact c2
          have hbz : Below w.heap.size w wz := by rw [hwz]; exact below_drewN (below_drewN hBw _) _
          rw [← hwz]
          clear hwz c1 c2 hBw HC
          go_quiet ((go_at_call 47; exact quiet_eqv (q _)))
          generalize nq = N2
          go_wp2
          go_ret
          exact ⟨by rw [HN.out]; rfl, below_drewN hbz _⟩
      · have d2 : decide ((k : Int) < (U.length : Int)) = false := by simp; omega
        have HN : Hid (lessPre a b = decide (T.length < U.length)) := by
          show _ = _
          rw [HP.out, ← HE.out, lessL_end (.inr (by omega)), decide_eq_decide, List.length_drop, List.length_drop]
          omega
        go_wp2
        go_ret
        exact ⟨by rw [HN.out]; rfl, below_drewN hBw _⟩
    · have d1 : decide ((k : Int) < (T.length : Int)) = false := by simp; omega
      have HN : Hid (lessPre a b = decide (T.length < U.length)) := by
        show _ = _
        rw [HP.out, ← HE.out, lessL_end (.inl (by omega)), decide_eq_decide, List.length_drop, List.length_drop]
        omega
      go_wp2
      go_ret
      exact ⟨by rw [HN.out]; rfl, below_drewN hBw _⟩

end Go.Proofs.Ytnoopfpgkgjdcab.Ver
