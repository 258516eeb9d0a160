/- Chapter 3, the landed code: numbers, parts of what stands behind a version, versions that are right. -/
import Derived.Test.YtnoopfpgkgjdcalImpA
namespace Go.Proofs.Ytnoopfpgkgjdcal.Ver
open Go.RowKit Go.Proofs.Ytnoopfpgkgjdcal.Mem Go.Proofs.Ytnoopfpgkgjdcal.Laws Go.Proofs.Ytnoopfpgkgjdcal.Bytes Go.Proofs.Ytnoopfpgkgjdcal.Sha
set_option linter.unusedVariables false
set_option linter.unusedSimpArgs false

set_option maxRecDepth 1000000 in
theorem digit_impl (w : World) (r : Int) : Calls Try.prog 41 #[.int .i32 r] w fun e w' => e = .returned (.bool (isd r)) ∧ w' = w := by
  by_cases h1 : 48 ≤ r
  · by_cases h2 : r ≤ 57
    · have HR : Hid (isd r = true) := by show _ = _; simp [isd, h1, h2]
      go_enter Try.func41, Try.ntmps41
      go_wp2
      go_ret
      exact ⟨by rw [HR.out]; simp [h2], rfl⟩
    · have HR : Hid (isd r = false) := by show _ = _; simp [isd, h2]
      go_enter Try.func41, Try.ntmps41
      go_wp2
      go_ret
      exact ⟨by rw [HR.out]; simp [h2], rfl⟩
  · have HR : Hid (isd r = false) := by show _ = _; simp [isd, h1]
    go_enter Try.func41, Try.ntmps41
    go_wp2
    go_ret
    exact ⟨by rw [HR.out]; rfl, rfl⟩

theorem sb_list (s : ByteArray) : sb s = s.toList.map fun b => (b.toNat : Int) := by rw [ByteArray.toList_eq]; rfl
theorem isNum_one {s : ByteArray} (h : s.toList = [48]) : isNum (sb s) = true := by rw [sb_list, h]; decide
theorem isNum_nil {s : ByteArray} (h : s.toList = []) : isNum (sb s) = false := by rw [sb_list, h]; decide
theorem isNum_more {s : ByteArray} (hall : (sb s).all isd = true) (h1 : ¬ s.toList = [48]) (h0 : 0 < s.size) : isNum (sb s) = ((s[0].toNat : Int) != 48) := by
  unfold isNum
  rw [hall]
  have hg := sb_get s 0 h0
  have hne : decide (sb s = [48]) = false := by
    rw [decide_eq_false_iff_not]
    intro he
    apply h1
    have h2 : s.toList.map (fun b => (b.toNat : Int)) = [48] := by rw [← sb_list]; exact he
    cases ht : s.toList with
    | nil => rw [ht] at h2; simp at h2
    | cons x y =>
      rw [ht] at h2
      simp at h2
      obtain ⟨h3, rfl⟩ := h2
      have h4 : x.toNat = (48 : UInt8).toNat := by have : (48 : UInt8).toNat = 48 := rfl; omega
      rw [UInt8.toNat_inj.1 h4]
  rw [hne]
  cases hb : sb s with
  | nil => rw [hb] at hg; simp at hg
  | cons x y =>
    rw [hb] at hg
    simp at hg
    simp [hg]
    rw [Bool.eq_iff_iff]
    simp

set_option maxRecDepth 1000000 in
set_option maxHeartbeats 1000000 in
theorem number_impl (w : World) (s : ByteArray) (hs : s.size ≤ 1000000000000) :
    Calls Try.prog 45 #[.string s] w fun e w' => e = .returned (.bool (isNum (sb s))) ∧ Below w.heap.size w w' := by
  go_enter Try.func45, Try.ntmps45
  go_wp2
  go_loopw [] (fun wr => ∃ k : Nat, k ≤ s.size ∧ Hid (((sb s).take k).all isd = true) ∧ wr = w.iter s k) (fun wr => s.size - wr.iterPos w.heap.size)
  case atStart => exact ⟨0, Nat.zero_le _, rfl, rfl⟩
  case round =>
    obtain ⟨k, hk, HA, rfl⟩ := hrel
    have hB : Below w.heap.size w (w.iter s k) := (Below.refl _ _).alloc (Nat.le_refl _) _
    by_cases hp : k < s.size
    · have hg := sb_get s k hp
      by_cases ha : (s[k]'hp).toNat < 128
      · have hnx : ∀ ty, (Instr.next (.pointer (some ⟨w.heap.size, 0, none⟩)) true ty).run Try.prog (w.iter s k) = _ := fun ty => run_next_ascii w s k ty hp ha
        have hB1 : Below w.heap.size w (w.iter s (k + 1)) := (Below.refl _ _).alloc (Nat.le_refl _) _
        obtain ⟨x, hx⟩ : ∃ x, isd (s[k].toNat : Int) = x := ⟨_, rfl⟩
        have q := digit_impl (w.iter s (k + 1)) (s[k].toNat : Int)
        rw [hx] at q
        cases x
        · have HN : Hid (isNum (sb s) = false) := by
            show _ = _
            unfold isNum
            rw [all_bad hg hx]
            rfl
          clear hx hg
          go_wp2_with (go_at_call 41; refine q.mono ?_; rintro e w' ⟨rfl, rfl⟩)
          go_ret
          exact ⟨by rw [HN.out]; rfl, hB1⟩
        · have HN : Hid (((sb s).take (k + 1)).all isd = true) := all_take HA.out hg hx
          clear hx hg
          go_wp2_with (go_at_call 41; refine q.mono ?_; rintro e w' ⟨rfl, rfl⟩)
          go_roundw
          case rel => exact ⟨k + 1, by omega, HN, rfl⟩
          case measure => simp; omega
      · obtain ⟨r1, r2, r3, r4⟩ := rune_high s k hp (by omega)
        have hx : isd (s[k].toNat : Int) = false := by simp [isd]; omega
        have HN : Hid (isNum (sb s) = false) := by
          show _ = _
          unfold isNum
          rw [all_bad hg hx]
          rfl
        obtain ⟨r, n, hdec⟩ : ∃ r n, Utf8.decode s k = (r, n) := ⟨_, _, rfl⟩
        have hnx0 : ∀ ty, (Instr.next (.pointer (some ⟨w.heap.size, 0, none⟩)) true ty).run Try.prog (w.iter s k) = _ := fun ty => run_next_any w s k ty hp
        rw [hdec] at r1 r2 r3 r4 hnx0
        simp only at r1 r2 r3 r4 hnx0
        have hnx : ∀ ty, (Instr.next (.pointer (some ⟨w.heap.size, 0, none⟩)) true ty).run Try.prog (w.iter s k) = .ok (.tuple #[.bool true, .int .i64 k, .int .i32 r]) (w.iter s (k + n)) := hnx0
        have hB1 : Below w.heap.size w (w.iter s (k + n)) := (Below.refl _ _).alloc (Nat.le_refl _) _
        have q := digit_impl (w.iter s (k + n)) (r : Int)
        rw [show isd (r : Int) = false by simp [isd]; omega] at q
        clear hx hg hnx0 hdec r4
        go_wp2_with (go_at_call 41; refine q.mono ?_; rintro e w' ⟨rfl, rfl⟩)
        go_ret
        exact ⟨by rw [HN.out]; rfl, hB1⟩
    · have hnx : ∀ ty, (Instr.next (.pointer (some ⟨w.heap.size, 0, none⟩)) true ty).run Try.prog (w.iter s k) = _ := fun ty => run_next_end w s k ty hp
      have HT : Hid ((sb s).all isd = true) := by
        have h := HA.out
        rw [List.take_of_length_le (by rw [sb_len]; omega)] at h
        exact h
      clear HA
      by_cases h1 : s.toList = [48]
      · have HN : Hid (isNum (sb s) = true) := isNum_one h1
        go_wp2
        go_ret
        exact ⟨by rw [HN.out]; rfl, hB⟩
      · by_cases h2 : s.toList = []
        · have HN : Hid (isNum (sb s) = false) := isNum_nil h2
          go_wp2
          go_ret
          exact ⟨by rw [HN.out]; rfl, hB⟩
        · have h0 : 0 < s.size := by
            have h3 := toList_empty s
            by_cases h4 : s.size = 0
            · rw [decide_eq_true h4] at h3
              exact absurd (List.isEmpty_iff.1 h3) h2
            · omega
          have HN : Hid (isNum (sb s) = ((s[0].toNat : Int) != 48)) := isNum_more HT.out h1 h0
          obtain ⟨x, hx⟩ : ∃ x, ((s[0].toNat : Int) != 48) = x := ⟨_, rfl⟩
          have HX : Hid (((s[0].toNat : Int) != 48) = x) := hx
          go_wp2
          go_ret
          have b1 : (s.toList == [48]) = false := by simpa using h1
          have b2 : s.toList.isEmpty = false := by simpa using h2
          exact ⟨by rw [HN.out, HX.out]; simp [b1, b2], hB⟩

end Go.Proofs.Ytnoopfpgkgjdcal.Ver
