/- Chapter 3, the landed code: parts of what stands behind a version, versions that are right. -/
import Derived.Test.YtnoopfpgkgjdcalImpB
namespace Go.Proofs.Ytnoopfpgkgjdcal.Ver
open Go.RowKit Go.Proofs.Ytnoopfpgkgjdcal.Mem Go.Proofs.Ytnoopfpgkgjdcal.Laws Go.Proofs.Ytnoopfpgkgjdcal.Bytes Go.Proofs.Ytnoopfpgkgjdcal.Sha
set_option linter.unusedVariables false
set_option linter.unusedSimpArgs false

/-- a letter -/
def isl (c : Int) : Bool := decide (97 ≤ c ∧ c ≤ 122) || decide (65 ≤ c ∧ c ≤ 90)
theorem psign_of (c : Int) : psign c = (isd c || isl c || decide (c = 45)) := by
  unfold psign isd isl
  generalize decide (97 ≤ c ∧ c ≤ 122) = x
  generalize decide (65 ≤ c ∧ c ≤ 90) = y
  generalize decide (48 ≤ c ∧ c ≤ 57) = z
  generalize decide (c = 45) = u
  cases x <;> cases y <;> cases z <;> rfl

set_option maxRecDepth 1000000 in
theorem letter_impl (w : World) (r : Int) : Calls Try.prog 52 #[.int .i32 r] w fun e w' => e = .returned (.bool (isl r)) ∧ w' = w := by
  by_cases h1 : 97 ≤ r
  · by_cases h2 : r ≤ 122
    · have HR : Hid (isl r = true) := by show _ = _; simp [isl, h1, h2]
      go_enter Try.func52, Try.ntmps52
      go_wp2
      go_ret
      exact ⟨by rw [HR.out]; rfl, rfl⟩
    · have HR : Hid (isl r = false) := by show _ = _; simp [isl]; omega
      have h3 : 65 ≤ r := by omega
      have h4 : ¬ r ≤ 90 := by omega
      go_enter Try.func52, Try.ntmps52
      go_wp2
      go_ret
      exact ⟨by rw [HR.out]; rfl, rfl⟩
  · by_cases h3 : 65 ≤ r
    · by_cases h4 : r ≤ 90
      · have HR : Hid (isl r = true) := by show _ = _; simp [isl, h3, h4]
        go_enter Try.func52, Try.ntmps52
        go_wp2
        go_ret
        exact ⟨by rw [HR.out]; rfl, rfl⟩
      · have HR : Hid (isl r = false) := by show _ = _; simp [isl]; omega
        go_enter Try.func52, Try.ntmps52
        go_wp2
        go_ret
        exact ⟨by rw [HR.out]; rfl, rfl⟩
    · have HR : Hid (isl r = false) := by show _ = _; simp [isl]; omega
      go_enter Try.func52, Try.ntmps52
      go_wp2
      go_ret
      exact ⟨by rw [HR.out]; rfl, rfl⟩

theorem allt {p : Int → Bool} {l : List Int} {k : Nat} {c : Int} (hc : l[k]? = some c) : (l.take (k + 1)).all p = ((l.take k).all p && p c) := by
  rw [take_snoc hc, List.all_append]
  simp

set_option maxRecDepth 1000000 in
set_option maxHeartbeats 2000000 in
theorem part_impl (w : World) (s : ByteArray) (hs : s.size ≤ 1000000000000) :
    Calls Try.prog 48 #[.string s] w fun e w' => e = .returned (.bool (part (sb s))) ∧ Below w.heap.size w w' := by
  have HPI : Hid (part (sb s) = (decide (1 ≤ s.size ∧ s.size ≤ 8) && (sb s).all psign && (!((sb s).all isd) || isNum (sb s)))) := by
    show _ = _
    rw [part_imp, sb_len]
  by_cases hz : s.size = 0
  · have b2 : s.toList.isEmpty = true := by rw [toList_empty]; simp [hz]
    have HN : Hid (part (sb s) = false) := by show _ = _; rw [HPI.out]; simp [hz]
    clear hz
    go_enter Try.func48, Try.ntmps48
    go_wp2
    go_ret
    exact ⟨by rw [HN.out]; rfl, Below.refl _ _⟩
  have b2 : s.toList.isEmpty = false := by rw [toList_empty]; simp [hz]
  by_cases h8 : 8 < s.size
  · have HN : Hid (part (sb s) = false) := by show _ = _; rw [HPI.out]; simp [h8]; omega
    go_enter Try.func48, Try.ntmps48
    go_wp2
    go_ret
    exact ⟨by rw [HN.out]; rfl, Below.refl _ _⟩
  have hz1 : 1 ≤ s.size := by omega
  have h81 : s.size ≤ 8 := by omega
  clear hz
  go_enter Try.func48, Try.ntmps48
  go_wp2
  go_loopw [3] (fun d wr => ∃ k : Nat, k ≤ s.size ∧ d = .bool (((sb s).take k).all isd) ∧ Hid (((sb s).take k).all psign = true) ∧ wr = w.iter s k) (fun _ wr => s.size - wr.iterPos w.heap.size)
  case atStart => exact ⟨0, Nat.zero_le _, rfl, rfl, rfl⟩
  case round =>
    obtain ⟨k, hk, rfl, HA, rfl⟩ := hrel
    have hB : Below w.heap.size w (w.iter s k) := (Below.refl _ _).alloc (Nat.le_refl _) _
    obtain ⟨dv, hdv⟩ : ∃ x, ((sb s).take k).all isd = x := ⟨_, rfl⟩
    have HD : Hid (((sb s).take k).all isd = dv) := hdv
    rw [hdv]
    clear hdv
    by_cases hp : k < s.size
    · have hg := sb_get s k hp
      by_cases ha : (s[k]'hp).toNat < 128
      · have hnx : ∀ ty, (Instr.next (.pointer (some ⟨w.heap.size, 0, none⟩)) true ty).run Try.prog (w.iter s k) = _ := fun ty => run_next_ascii w s k ty hp ha
        have hB1 : Below w.heap.size w (w.iter s (k + 1)) := (Below.refl _ _).alloc (Nat.le_refl _) _
        obtain ⟨x1, hx1⟩ : ∃ x, isd (s[k].toNat : Int) = x := ⟨_, rfl⟩
        obtain ⟨x2, hx2⟩ : ∃ x, isl (s[k].toNat : Int) = x := ⟨_, rfl⟩
        have q1 := digit_impl (w.iter s (k + 1)) (s[k].toNat : Int)
        have q2 := letter_impl (w.iter s (k + 1)) (s[k].toNat : Int)
        rw [hx1] at q1
        rw [hx2] at q2
        have HT : Hid (((sb s).take (k + 1)).all isd = (dv && x1)) := by show _ = _; rw [allt hg, HD.out, hx1]
        have HS : Hid (((sb s).take (k + 1)).all psign = (x1 || x2 || decide ((s[k].toNat : Int) = 45))) := by show _ = _; rw [allt hg, HA.out, psign_of, hx1, hx2, Bool.true_and]
        have HW : Hid ((x1 || x2 || decide ((s[k].toNat : Int) = 45)) = false → part (sb s) = false) := by
          intro hf
          rw [HPI.out]
          have : (sb s).all psign = false := all_bad hg (by rw [psign_of, hx1, hx2]; exact hf)
          rw [this]
          simp
        clear hg hx1 hx2
        cases dv
        · cases x1
          · cases x2
            · by_cases h45 : (s[k].toNat : Int) = 45
              · have d45 : ((s[k].toNat : Int) != 45) = false := by simpa using h45
                have HC : Hid ((s[k].toNat : Int) = 45) := h45
                clear h45
                go_wp2_with (first | (go_at_call 41; refine q1.mono ?_; rintro e w' ⟨rfl, rfl⟩) | (go_at_call 52; refine q2.mono ?_; rintro e w' ⟨rfl, rfl⟩))
                go_roundw
                case rel => exact ⟨k + 1, by omega, by rw [HT.out]; rfl, by show _ = _; rw [HS.out]; simp [HC.out], rfl⟩
                case measure => simp; omega
              · have d45 : ((s[k].toNat : Int) != 45) = true := by simpa using h45
                have HN : Hid (part (sb s) = false) := HW.out (by simp [h45])
                clear h45
                go_wp2_with (first | (go_at_call 41; refine q1.mono ?_; rintro e w' ⟨rfl, rfl⟩) | (go_at_call 52; refine q2.mono ?_; rintro e w' ⟨rfl, rfl⟩))
                go_ret
                exact ⟨by rw [HN.out]; rfl, hB1⟩
            · have HC : Hid True := trivial
              go_wp2_with (first | (go_at_call 41; refine q1.mono ?_; rintro e w' ⟨rfl, rfl⟩) | (go_at_call 52; refine q2.mono ?_; rintro e w' ⟨rfl, rfl⟩))
              go_roundw
              case rel => exact ⟨k + 1, by omega, by rw [HT.out]; rfl, by show _ = _; rw [HS.out]; simp [HC.out], rfl⟩
              case measure => simp; omega
          · have HC : Hid True := trivial
            go_wp2_with (first | (go_at_call 41; refine q1.mono ?_; rintro e w' ⟨rfl, rfl⟩) | (go_at_call 52; refine q2.mono ?_; rintro e w' ⟨rfl, rfl⟩))
            go_roundw
            case rel => exact ⟨k + 1, by omega, by rw [HT.out]; rfl, by show _ = _; rw [HS.out]; simp [HC.out], rfl⟩
            case measure => simp; omega
        · cases x1
          · cases x2
            · by_cases h45 : (s[k].toNat : Int) = 45
              · have d45 : ((s[k].toNat : Int) != 45) = false := by simpa using h45
                have HC : Hid ((s[k].toNat : Int) = 45) := h45
                clear h45
                go_wp2_with (first | (go_at_call 41; refine q1.mono ?_; rintro e w' ⟨rfl, rfl⟩) | (go_at_call 52; refine q2.mono ?_; rintro e w' ⟨rfl, rfl⟩))
                go_roundw
                case rel => exact ⟨k + 1, by omega, by rw [HT.out]; rfl, by show _ = _; rw [HS.out]; simp [HC.out], rfl⟩
                case measure => simp; omega
              · have d45 : ((s[k].toNat : Int) != 45) = true := by simpa using h45
                have HN : Hid (part (sb s) = false) := HW.out (by simp [h45])
                clear h45
                go_wp2_with (first | (go_at_call 41; refine q1.mono ?_; rintro e w' ⟨rfl, rfl⟩) | (go_at_call 52; refine q2.mono ?_; rintro e w' ⟨rfl, rfl⟩))
                go_ret
                exact ⟨by rw [HN.out]; rfl, hB1⟩
            · have HC : Hid True := trivial
              go_wp2_with (first | (go_at_call 41; refine q1.mono ?_; rintro e w' ⟨rfl, rfl⟩) | (go_at_call 52; refine q2.mono ?_; rintro e w' ⟨rfl, rfl⟩))
              go_roundw
              case rel => exact ⟨k + 1, by omega, by rw [HT.out]; rfl, by show _ = _; rw [HS.out]; simp [HC.out], rfl⟩
              case measure => simp; omega
          · have HC : Hid True := trivial
            go_wp2_with (first | (go_at_call 41; refine q1.mono ?_; rintro e w' ⟨rfl, rfl⟩) | (go_at_call 52; refine q2.mono ?_; rintro e w' ⟨rfl, rfl⟩))
            go_roundw
            case rel => exact ⟨k + 1, by omega, by rw [HT.out]; rfl, by show _ = _; rw [HS.out]; simp [HC.out], rfl⟩
            case measure => simp; omega
      · obtain ⟨r1, r2, r3, r4⟩ := rune_high s k hp (by omega)
        have HN : Hid (part (sb s) = false) := by
          show _ = _
          rw [HPI.out]
          have : (sb s).all psign = false := all_bad hg (by rw [psign_of]; simp [isd, isl]; omega)
          rw [this]
          simp
        obtain ⟨r, n, hdec⟩ : ∃ r n, Utf8.decode s k = (r, n) := ⟨_, _, rfl⟩
        have hnx0 : ∀ ty, (Instr.next (.pointer (some ⟨w.heap.size, 0, none⟩)) true ty).run Try.prog (w.iter s k) = _ := fun ty => run_next_any w s k ty hp
        rw [hdec] at r1 r2 r3 r4 hnx0
        simp only at r1 r2 r3 r4 hnx0
        have hnx : ∀ ty, (Instr.next (.pointer (some ⟨w.heap.size, 0, none⟩)) true ty).run Try.prog (w.iter s k) = .ok (.tuple #[.bool true, .int .i64 k, .int .i32 r]) (w.iter s (k + n)) := hnx0
        have hB1 : Below w.heap.size w (w.iter s (k + n)) := (Below.refl _ _).alloc (Nat.le_refl _) _
        have q1 := digit_impl (w.iter s (k + n)) (r : Int)
        rw [show isd (r : Int) = false by simp [isd]; omega] at q1
        have q2 := letter_impl (w.iter s (k + n)) (r : Int)
        rw [show isl (r : Int) = false by simp [isl]; omega] at q2
        have d45 : ((r : Int) != 45) = true := by simp; omega
        clear hg hnx0 hdec r4
        go_wp2_with (first | (go_at_call 41; refine q1.mono ?_; rintro e w' ⟨rfl, rfl⟩) | (go_at_call 52; refine q2.mono ?_; rintro e w' ⟨rfl, rfl⟩))
        go_ret
        exact ⟨by rw [HN.out]; rfl, hB1⟩
    · have hnx : ∀ ty, (Instr.next (.pointer (some ⟨w.heap.size, 0, none⟩)) true ty).run Try.prog (w.iter s k) = _ := fun ty => run_next_end w s k ty hp
      have HN : Hid (part (sb s) = (!dv || isNum (sb s))) := by
        show _ = _
        have h1 := HA.out
        have h2 := HD.out
        rw [List.take_of_length_le (by rw [sb_len]; omega)] at h1 h2
        rw [HPI.out, h1, h2]
        simp [hz1, h81]
      clear HA HD
      have q := number_impl (w.iter s k) s hs
      cases dv
      · go_wp2_with (go_at_call 45; refine q.mono ?_; rintro e w' ⟨rfl, bq⟩)
        go_ret
        exact ⟨by rw [HN.out]; rfl, hB⟩
      · go_wp2_with (go_at_call 45; refine q.mono ?_; rintro e w' ⟨rfl, bq⟩)
        go_ret
        exact ⟨by rw [HN.out]; rfl, hB.trans (bq.mono hB.size)⟩

end Go.Proofs.Ytnoopfpgkgjdcal.Ver
