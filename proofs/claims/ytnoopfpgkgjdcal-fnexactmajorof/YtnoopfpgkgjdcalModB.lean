/- Chapter 4, the landed code: a part of a path. -/
import Derived.Test.YtnoopfpgkgjdcalImpB
import Derived.Test.YtnoopfpgkgjdcalMod1
namespace Go.Proofs.Ytnoopfpgkgjdcal.Mod
open Go.RowKit Go.Proofs.Ytnoopfpgkgjdcal.Mem Go.Proofs.Ytnoopfpgkgjdcal.Laws Go.Proofs.Ytnoopfpgkgjdcal.Bytes Go.Proofs.Ytnoopfpgkgjdcal.Sha Go.Proofs.Ytnoopfpgkgjdcal.Ver
set_option linter.unusedVariables false
set_option linter.unusedSimpArgs false

set_option maxRecDepth 1000000 in
set_option maxHeartbeats 1000000 in
theorem begins_impl (w : World) (r : Int) : Calls Try.prog 30 #[.int .i32 r] w fun e w' => e = .returned (.bool (plain4 r)) ∧ w' = w := by
  have HD : Hid (plain4 r = (decide (97 ≤ r ∧ r ≤ 122) || isd r)) := rfl
  have q := digit_impl w r
  obtain ⟨d, hd⟩ : ∃ d, isd r = d := ⟨_, rfl⟩
  rw [hd] at q HD
  clear hd
  by_cases h1 : 97 ≤ r
  · by_cases h2 : r ≤ 122
    · have HN : Hid (plain4 r = true) := by show _ = _; rw [HD.out]; simp [h1, h2]
      go_enter Try.func30, Try.ntmps30
      go_wp2
      go_ret
      exact ⟨by rw [HN.out]; rfl, rfl⟩
    · have HN : Hid (plain4 r = d) := by show _ = _; rw [HD.out]; simp [h2]
      go_enter Try.func30, Try.ntmps30
      go_wp2_with (go_at_call 41; refine q.mono ?_; rintro e w' ⟨rfl, rfl⟩)
      go_ret
      exact ⟨by rw [HN.out]; rfl, rfl⟩
  · have HN : Hid (plain4 r = d) := by show _ = _; rw [HD.out]; simp [h1]
    go_enter Try.func30, Try.ntmps30
    go_wp2_with (go_at_call 41; refine q.mono ?_; rintro e w' ⟨rfl, rfl⟩)
    go_ret
    exact ⟨by rw [HN.out]; rfl, rfl⟩

set_option maxRecDepth 1000000 in
set_option maxHeartbeats 2000000 in
theorem part_impl4 (w : World) (s : ByteArray) (hs : s.size ≤ 1000000000000) :
    Calls Try.prog 20 #[.string s] w fun e w' => e = .returned (.bool (part4 (sb s))) ∧ Below w.heap.size w w' := by
  have HP : Hid (part4 (sb s) = (signs4 0 (sb s) && decide (1 ≤ s.size ∧ s.size ≤ 20))) := by show _ = _; unfold part4; rw [sb_len]
  by_cases h0 : s.size = 0
  · have he : s.toList.isEmpty = true := by rw [toList_empty]; exact decide_eq_true h0
    have HN : Hid (part4 (sb s) = false) := by show _ = _; rw [HP.out]; simp [h0]
    clear h0 HP
    go_enter Try.func20, Try.ntmps20
    go_wp2
    go_ret
    exact ⟨by rw [HN.out]; rfl, Below.refl _ _⟩
  have he : s.toList.isEmpty = false := by rw [toList_empty]; exact decide_eq_false h0
  by_cases h20 : 20 < s.size
  · have d20 : decide ((20 : Int) < (s.size : Int)) = true := by simp; omega
    have HN : Hid (part4 (sb s) = false) := by show _ = _; rw [HP.out, decide_eq_false (by omega), Bool.and_false]
    clear h0 HP
    go_enter Try.func20, Try.ntmps20
    go_wp2
    go_ret
    exact ⟨by rw [HN.out]; rfl, Below.refl _ _⟩
  have d20 : decide ((20 : Int) < (s.size : Int)) = false := by simp; omega
  have HQ : Hid (part4 (sb s) = signs4 0 (sb s)) := by show _ = _; rw [HP.out, decide_eq_true (by omega), Bool.and_true]
  clear HP h0
  go_enter Try.func20, Try.ntmps20
  go_wp2
  clear he d20
  go_loopw [] (fun wr => ∃ k : Nat, k ≤ s.size ∧ Hid (signs4 0 ((sb s).take k) = true) ∧ wr = w.iter s k) (fun wr => s.size - wr.iterPos w.heap.size)
  case atStart => exact ⟨0, Nat.zero_le _, rfl, rfl⟩
  case round =>
    obtain ⟨k, hk, HA, rfl⟩ := hrel
    have hB : Below w.heap.size w (w.iter s k) := (Below.refl _ _).alloc (Nat.le_refl _) _
    by_cases hp : k < s.size
    · have hg := sb_get s k hp
      by_cases ha : (s[k]'hp).toNat < 128
      · have hnx : ∀ ty, (Instr.next (.pointer (some ⟨w.heap.size, 0, none⟩)) true ty).run Try.prog (w.iter s k) = _ := fun ty => run_next_ascii w s k ty hp ha
        have hB1 : Below w.heap.size w (w.iter s (k + 1)) := (Below.refl _ _).alloc (Nat.le_refl _) _
        have HS : Hid (signs4 0 ((sb s).take (k + 1)) = (signs4 0 ((sb s).take k) && sign4 k (s[k].toNat : Int))) := signs4_step hg
        have HB : Hid (sign4 k (s[k].toNat : Int) = false → signs4 0 (sb s) = false) := signs4_bad hg
        have q := begins_impl (w.iter s (k + 1)) (s[k].toNat : Int)
        obtain ⟨c, hc⟩ : ∃ c : Int, (s[k].toNat : Int) = c := ⟨_, rfl⟩
        rw [hc] at q HS HB hnx
        obtain ⟨x, hx⟩ : ∃ x, plain4 c = x := ⟨_, rfl⟩
        rw [hx] at q
        have HX : Hid (plain4 c = x) := hx
        clear hx hg hc
        cases x
        · by_cases h0 : k = 0
          · have d0 : ((k : Int) == 0) = true := by simp; omega
            have HN : Hid (part4 (sb s) = false) := by
              show _ = _
              rw [HQ.out, HB.out (by unfold sign4; rw [HX.out]; simp [h0])]
            clear h0
            go_wp2_with (go_at_call 30; refine q.mono ?_; rintro e w' ⟨rfl, rfl⟩)
            go_ret
            exact ⟨by rw [HN.out]; rfl, hB1⟩
          · have d0 : ((k : Int) == 0) = false := by simp; omega
            by_cases h1 : c = 45
            · have d1 : (c != 45) = false := by simpa using h1
              have HN : Hid (signs4 0 ((sb s).take (k + 1)) = true) := by show _ = _; rw [HS.out, HA.out]; unfold sign4; simp [h0, h1]
              clear h0 h1 HX HS HB
              go_wp2_with (go_at_call 30; refine q.mono ?_; rintro e w' ⟨rfl, rfl⟩)
              go_roundw
              case rel => exact ⟨k + 1, by omega, HN, rfl⟩
              case measure => simp; omega
            have d1 : (c != 45) = true := by simpa using h1
            by_cases h2 : c = 46
            · have d2 : (c != 46) = false := by simpa using h2
              have HN : Hid (signs4 0 ((sb s).take (k + 1)) = true) := by show _ = _; rw [HS.out, HA.out]; unfold sign4; simp [h0, h2]
              clear h0 h1 h2 HX HS HB
              go_wp2_with (go_at_call 30; refine q.mono ?_; rintro e w' ⟨rfl, rfl⟩)
              go_roundw
              case rel => exact ⟨k + 1, by omega, HN, rfl⟩
              case measure => simp; omega
            have d2 : (c != 46) = true := by simpa using h2
            by_cases h3 : c = 95
            · have d3 : (c != 95) = false := by simpa using h3
              have HN : Hid (signs4 0 ((sb s).take (k + 1)) = true) := by show _ = _; rw [HS.out, HA.out]; unfold sign4; simp [h0, h3]
              clear h0 h1 h2 h3 HX HS HB
              go_wp2_with (go_at_call 30; refine q.mono ?_; rintro e w' ⟨rfl, rfl⟩)
              go_roundw
              case rel => exact ⟨k + 1, by omega, HN, rfl⟩
              case measure => simp; omega
            have d3 : (c != 95) = true := by simpa using h3
            have HN : Hid (part4 (sb s) = false) := by
              show _ = _
              rw [HQ.out, HB.out (by unfold sign4; rw [HX.out]; simp [h1, h2, h3])]
            clear h0 h1 h2 h3
            go_wp2_with (go_at_call 30; refine q.mono ?_; rintro e w' ⟨rfl, rfl⟩)
            go_ret
            exact ⟨by rw [HN.out]; rfl, hB1⟩
        · have HN : Hid (signs4 0 ((sb s).take (k + 1)) = true) := by show _ = _; rw [HS.out, HA.out]; unfold sign4; rw [HX.out]; rfl
          go_wp2_with (go_at_call 30; refine q.mono ?_; rintro e w' ⟨rfl, rfl⟩)
          go_roundw
          case rel => exact ⟨k + 1, by omega, HN, rfl⟩
          case measure => simp; omega
      · obtain ⟨r1, r2, r3, r4⟩ := rune_high s k hp (by omega)
        have HN : Hid (part4 (sb s) = false) := by
          show _ = _
          rw [HQ.out]
          refine signs4_bad hg ?_
          unfold sign4 plain4
          simp
          omega
        obtain ⟨r, n, hdec⟩ : ∃ r n, Utf8.decode s k = (r, n) := ⟨_, _, rfl⟩
        have hnx0 : ∀ ty, (Instr.next (.pointer (some ⟨w.heap.size, 0, none⟩)) true ty).run Try.prog (w.iter s k) = _ := fun ty => run_next_any w s k ty hp
        rw [hdec] at r1 r2 r3 r4 hnx0
        simp only at r1 r2 r3 r4 hnx0
        have hnx : ∀ ty, (Instr.next (.pointer (some ⟨w.heap.size, 0, none⟩)) true ty).run Try.prog (w.iter s k) = .ok (.tuple #[.bool true, .int .i64 k, .int .i32 r]) (w.iter s (k + n)) := hnx0
        have hB1 : Below w.heap.size w (w.iter s (k + n)) := (Below.refl _ _).alloc (Nat.le_refl _) _
        have q := begins_impl (w.iter s (k + n)) (r : Int)
        rw [show plain4 (r : Int) = false by unfold plain4; simp; omega] at q
        have d1 : ((r : Int) != 45) = true := by simp; omega
        have d2 : ((r : Int) != 46) = true := by simp; omega
        have d3 : ((r : Int) != 95) = true := by simp; omega
        clear hg hnx0 hdec r4
        by_cases h0 : k = 0
        · have d0 : ((k : Int) == 0) = true := by simp; omega
          clear h0
          go_wp2_with (go_at_call 30; refine q.mono ?_; rintro e w' ⟨rfl, rfl⟩)
          go_ret
          exact ⟨by rw [HN.out]; rfl, hB1⟩
        · have d0 : ((k : Int) == 0) = false := by simp; omega
          clear h0
          go_wp2_with (go_at_call 30; refine q.mono ?_; rintro e w' ⟨rfl, rfl⟩)
          go_ret
          exact ⟨by rw [HN.out]; rfl, hB1⟩
    · have hnx : ∀ ty, (Instr.next (.pointer (some ⟨w.heap.size, 0, none⟩)) true ty).run Try.prog (w.iter s k) = _ := fun ty => run_next_end w s k ty hp
      have HN : Hid (part4 (sb s) = true) := by
        show _ = _
        have h1 := HA.out
        rw [List.take_of_length_le (by rw [sb_len]; omega)] at h1
        rw [HQ.out, h1]
      go_wp2
      go_ret
      exact ⟨by rw [HN.out]; rfl, hB⟩

end Go.Proofs.Ytnoopfpgkgjdcal.Mod
