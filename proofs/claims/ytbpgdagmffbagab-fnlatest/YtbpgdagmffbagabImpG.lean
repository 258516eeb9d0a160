/- Chapter 3, the landed code: the first answer that is not 0; parts compared; lists of parts compared. -/
import Derived.Test.YtbpgdagmffbagabImpF
namespace Go.Proofs.Ytbpgdagmffbagab.Ver
open Go.RowKit Go.Proofs.Ytbpgdagmffbagab.Mem Go.Proofs.Ytbpgdagmffbagab.Laws Go.Proofs.Ytbpgdagmffbagab.Bytes Go.Proofs.Ytbpgdagmffbagab.Sha
set_option linter.unusedVariables false
set_option linter.unusedSimpArgs false

def is64 (l : List Int) : List Value := l.map (Value.int .i64)
theorem is64_len (l : List Int) : (is64 l).length = l.length := by simp [is64]
theorem is64_get (l : List Int) (j : Nat) : (is64 l)[j]? = (l[j]?).map (Value.int .i64) := by simp [is64]

set_option maxRecDepth 1000000 in
set_option maxHeartbeats 1000000 in
theorem or_impl (w : World) (v : Value) (l : List Int) (hsl : Sl w v (is64 l)) (hl : l.length ≤ 1000) :
    Calls Try.prog 27 #[v] w fun e w' => e = .returned (.int .i64 (orL l)) ∧ w' = w := by
  obtain ⟨ao, cap, rfl, hc, hn, hr⟩ := hsl
  rw [is64_len] at hc hr ⊢
  have HR : Hid (0 < l.length → ∃ b off, ao = some ⟨b, off, none⟩ ∧ ∀ j, j < l.length → w.cell? ⟨b, off + j, none⟩ = (is64 l)[j]?) := hr
  clear hr hn
  go_enter Try.func27, Try.ntmps27
  go_wp2
  go_loopw [8] (fun i wr => ∃ k : Nat, k ≤ l.length ∧ i = .int .i64 (k : Int) ∧ Hid (orL l = orL (l.drop k)) ∧ w = wr) (fun i _ => l.length - (intOf i).toNat)
  case atStart => exact ⟨0, Nat.zero_le _, rfl, rfl, by first | rfl | trivial⟩
  case round =>
    obtain ⟨k, hk, rfl, HA, rfl⟩ := hrel
    by_cases hlt : k < l.length
    · obtain ⟨b, off, rfl, hcell0⟩ := HR.out (by omega)
      obtain ⟨x, hx⟩ : ∃ x, l[k]? = some x := ⟨l[k], by simp [hlt]⟩
      have hcell : w.cell? ⟨b, off + k, none⟩ = some (.int .i64 x) := by rw [hcell0 k hlt, is64_get, hx]; rfl
      have hd : l.drop k = x :: l.drop (k + 1) := by
        obtain ⟨hk', rfl⟩ := List.getElem?_eq_some_iff.1 hx
        rw [List.drop_eq_getElem_cons hk']
      have HO : Hid (orL l = if x = 0 then orL (l.drop (k + 1)) else x) := by show _ = _; rw [HA.out, hd, orL]
      clear hcell0 hd hx HR
      by_cases h0 : x = 0
      · have d0 : (x != 0) = false := by simpa using h0
        have HN : Hid (orL l = orL (l.drop (k + 1))) := by show _ = _; rw [HO.out, if_pos h0]
        clear h0
        go_wp2
        go_roundw
        case rel => exact ⟨k + 1, by omega, by go_num, HN, by first | rfl | trivial⟩
        case measure => simp [intOf]; omega
      · have d0 : (x != 0) = true := by simpa using h0
        have HN : Hid (orL l = x) := by show _ = _; rw [HO.out, if_neg h0]
        clear h0
        go_wp2
        go_ret
        exact ⟨by rw [HN.out]; rfl, rfl⟩
    · have HN : Hid (orL l = 0) := by
        show _ = _
        rw [HA.out, List.drop_eq_nil_of_le (by omega)]
        rfl
      go_wp2
      go_ret
      exact ⟨by rw [HN.out]; rfl, rfl⟩

set_option maxRecDepth 1000000 in
set_option maxHeartbeats 1000000 in
theorem cpart_impl (w : World) (a b : ByteArray) (ha : a.size ≤ 1000000000000) (hb : b.size ≤ 1000000000000) :
    Calls Try.prog 39 #[.string a, .string b] w fun e w' => e = .returned (.int .i64 (cmpPart a b)) ∧ Below w.heap.size w w' := by
  obtain ⟨x, hx⟩ : ∃ x, isNum (sb a) = x := ⟨_, rfl⟩
  obtain ⟨y, hy⟩ : ∃ y, isNum (sb b) = y := ⟨_, rfl⟩
  have HC : Hid (cmpPart a b = if x = true then (if y = true then orL [cmpI a.size b.size, cmpT a b] else -1) else (if y = true then 1 else cmpT a b)) := by
    show _ = _
    unfold cmpPart
    rw [hx, hy]
  have q1 := number_impl w a ha
  rw [hx] at q1
  have q2 := fun W => number_impl W b hb
  rw [hy] at q2
  clear hx hy
  go_enter Try.func39, Try.ntmps39
  go_wp2_with fail
  refine q1.mono ?_
  rintro e w1 ⟨rfl, b1⟩
  go_wp2_with fail
  refine (q2 w1).mono ?_
  rintro e w2 ⟨rfl, b2⟩
  have hb2 : Below w.heap.size w w2 := b1.trans (b2.mono b1.size)
  have hs2 := hb2.size
  clear q1 q2
  cases x
  · cases y
    · have HN : Hid (cmpPart a b = cmpT a b) := by show _ = _; rw [HC.out]; rfl
      have q3 := compare_str w2 a b
      obtain ⟨r, hr⟩ : ∃ r, cmpT a b = r := ⟨_, rfl⟩
      have HE : Hid (cmpT a b = r) := hr
      rw [hr] at q3
      clear hr
      go_wp2_with (go_at_call 45; refine q3.mono ?_; rintro e w' ⟨rfl, rfl⟩)
      go_ret
      exact ⟨by rw [HN.out, HE.out]; rfl, hb2⟩
    · have HN : Hid (cmpPart a b = 1) := by show _ = _; rw [HC.out]; rfl
      go_wp2_with fail
      go_ret
      exact ⟨by rw [HN.out]; rfl, hb2⟩
  · cases y
    · have HN : Hid (cmpPart a b = -1) := by show _ = _; rw [HC.out]; rfl
      go_wp2_with fail
      go_ret
      exact ⟨by rw [HN.out]; rfl, hb2⟩
    · have HN : Hid (cmpPart a b = orL [cmpI a.size b.size, cmpT a b]) := by show _ = _; rw [HC.out]; rfl
      have q3 := compare_str w2 a b
      obtain ⟨r, hr⟩ : ∃ r, cmpT a b = r := ⟨_, rfl⟩
      have q4 := compare_int w2 (a.size : Int) (b.size : Int)
      obtain ⟨t, ht⟩ : ∃ t, cmpI (a.size : Int) (b.size : Int) = t := ⟨_, rfl⟩
      have HE : Hid (orL [cmpI a.size b.size, cmpT a b] = orL [t, r]) := by show _ = _; rw [hr, ht]
      rw [hr] at q3
      rw [ht] at q4
      clear hr ht
      obtain ⟨z, hz⟩ : ∃ z, orL [t, r] = z := ⟨_, rfl⟩
      have hsl : Sl (w2.alloc (.cells #[.int .i64 t, .int .i64 r] 3)) (.slice (some ⟨w2.heap.size, 0, none⟩) 2 2) (is64 [t, r]) := by
        refine ⟨some ⟨w2.heap.size, 0, none⟩, 2, rfl, Nat.le_refl _, fun h => (by cases h), fun _ => ⟨w2.heap.size, 0, rfl, fun j hj => ?_⟩⟩
        rw [Nat.zero_add, cell_of_row _ w2.heap.size j #[.int .i64 t, .int .i64 r] 3 (0, 0) (heap_alloc_new w2 _)]
        simp [is64]
      have q5 := or_impl _ _ _ hsl (by simp)
      rw [hz] at q5
      have HZ : Hid (orL [t, r] = z) := hz
      have hb3 : Below w.heap.size w (w2.alloc (.cells #[.int .i64 t, .int .i64 r] 3)) := hb2.alloc hs2 _
      clear hz hsl
      go_wp2_with (first | (go_at_call 45; refine q3.mono ?_; rintro e w' ⟨rfl, rfl⟩) | (go_at_call 28; refine q4.mono ?_; rintro e w' ⟨rfl, rfl⟩) | (go_at_call 27; refine q5.mono ?_; rintro e w' ⟨rfl, rfl⟩))
      go_ret
      exact ⟨by rw [HN.out, HE.out, HZ.out]; rfl, hb3⟩

end Go.Proofs.Ytbpgdagmffbagab.Ver
