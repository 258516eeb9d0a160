/- Chapter 4, the specification's side: paths. -/
import Derived.Test.YtnoopfpgkgjdcalMod1
namespace Go.Proofs.Ytnoopfpgkgjdcal.Ver
open Go.RowKit Go.Proofs.Ytnoopfpgkgjdcal.Mem Go.Proofs.Ytnoopfpgkgjdcal.Laws Go.Proofs.Ytnoopfpgkgjdcal.Bytes Go.Proofs.Ytnoopfpgkgjdcal.Sha
set_option linter.unusedVariables false
set_option linter.unusedSimpArgs false

set_option maxRecDepth 1000000 in
set_option maxHeartbeats 1000000 in
theorem path_spec (w : World) (s : ByteArray) (hs : s.size ≤ 1000000000000) :
    Calls Try.prog 7 #[.string s] w fun e w' => e = .returned (.bool (path4 (sb s))) ∧ Below w.heap.size w w' := by
  go_enter Try.func7, Try.ntmps7
  go_wp2_with fail
  refine (split_spec w s 47 (by omega) (by omega) hs).mono ?_
  rintro e w1 ⟨v1, rfl, o1, b1⟩
  obtain ⟨T, hT⟩ : ∃ T, T = splitT 47 s := ⟨_, rfl⟩
  have hTs := splitT_size 47 s
  have hTl := splitT_len 47 s
  have hTm := splitT_sb 47 s
  rw [← hT] at o1 hTs hTl hTm
  have hT0 : 0 < T.length := by
    have := splitL_pos 47 (sb s) []
    have h2 : T.length = (split 47 (sb s)).length := by rw [← hTm, List.length_map]
    rw [h2]; exact this
  have HP : Hid (path4 (sb s) = (T.all (fun t => part4 (sb t)) && decide (T.length ≤ 6) && decide (s.size ≤ 60))) := by
    show _ = _
    unfold path4
    rw [← hTm, List.all_map, List.length_map, sb_len]
    rfl
  obtain ⟨g, cap, rfl, hg1, hg2, hcap, hc⟩ := ownForm o1 (by rw [ss_len]; exact hT0)
  rw [ss_len] at hcap hc
  rw [ss_len]
  have HC : Hid (∀ j, j < T.length → w1.cell? ⟨g, j, none⟩ = (ss T)[j]?) := hc
  have HTs : Hid (∀ t ∈ T, t.size ≤ s.size) := hTs
  clear hT hTs hTm hc o1
  go_wp2
  go_loopw [4] (fun i wr => ∃ k : Nat, k ≤ T.length ∧ i = .int .i64 (k : Int) ∧ Hid ((T.take k).all (fun t => part4 (sb t)) = true) ∧ w1 = wr) (fun i _ => T.length - (intOf i).toNat)
  case atStart => exact ⟨0, Nat.zero_le _, rfl, rfl, by first | rfl | trivial⟩
  case round =>
    obtain ⟨k, hk, rfl, HA, rfl⟩ := hrel
    by_cases hlt : k < T.length
    · obtain ⟨t, ht⟩ : ∃ t, T[k]? = some t := ⟨T[k], by simp [hlt]⟩
      have hcell : w1.cell? ⟨g, k, none⟩ = some (.string t) := by rw [HC.out k hlt, ss_get, ht]; rfl
      have htm := HTs.out t (List.mem_of_getElem? ht)
      have HT : Hid (T[k]? = some t) := ht
      have q := part4_spec w1 t (by omega)
      obtain ⟨pb, hpb⟩ : ∃ b, part4 (sb t) = b := ⟨_, rfl⟩
      have HB : Hid (part4 (sb t) = pb) := hpb
      rw [hpb] at q
      clear ht hpb
      cases pb
      · have HN : Hid (path4 (sb s) = false) := by
          show _ = _
          rw [HP.out]
          have : T.all (fun t => part4 (sb t)) = false := by
            rw [List.all_eq_false]
            exact ⟨t, List.mem_of_getElem? HT.out, by simp [HB.out]⟩
          rw [this]; rfl
        go_wp2_with (go_at_call 18; refine q.mono ?_; rintro e w' ⟨rfl, rfl⟩)
        go_ret
        exact ⟨by rw [HN.out]; rfl, b1⟩
      · have HN : Hid ((T.take (k + 1)).all (fun t => part4 (sb t)) = true) := by
          show _ = _
          rw [List.take_succ_eq_append_getElem hlt, List.all_append, HA.out]
          have : T[k] = t := by have := HT.out; rw [List.getElem?_eq_getElem hlt] at this; simpa using this
          simp [this, HB.out]
        go_wp2_with (go_at_call 18; refine q.mono ?_; rintro e w' ⟨rfl, rfl⟩)
        go_roundw
        case rel => exact ⟨k + 1, by omega, by go_num, HN, by first | rfl | trivial⟩
        case measure => simp [intOf]; omega
    · have h1 := HA.out
      rw [List.take_of_length_le (by omega)] at h1
      have HN : Hid (path4 (sb s) = (decide (T.length ≤ 6) && decide (s.size ≤ 60))) := by
        show _ = _
        rw [HP.out, h1, Bool.true_and]
      clear h1
      by_cases h6 : T.length ≤ 6
      · have d6 : decide ((T.length : Int) ≤ 6) = true := by simp; omega
        have HN2 : Hid (path4 (sb s) = decide ((s.size : Int) ≤ 60)) := by
          show _ = _
          rw [HN.out, decide_eq_true h6, Bool.true_and, decide_eq_decide]
          omega
        go_wp2
        go_ret
        exact ⟨by rw [HN2.out]; rfl, b1⟩
      · have d6 : decide ((T.length : Int) ≤ 6) = false := by simp; omega
        have HN2 : Hid (path4 (sb s) = false) := by
          show _ = _
          rw [HN.out, decide_eq_false h6, Bool.false_and]
        go_wp2
        go_ret
        exact ⟨by rw [HN2.out]; rfl, b1⟩

end Go.Proofs.Ytnoopfpgkgjdcal.Ver
