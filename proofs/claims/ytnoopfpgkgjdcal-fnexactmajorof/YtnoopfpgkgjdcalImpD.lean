/- Chapter 3, the landed code: versions that are right. -/
import Derived.Test.YtnoopfpgkgjdcalImpC
namespace Go.Proofs.Ytnoopfpgkgjdcal.Ver
open Go.RowKit Go.Proofs.Ytnoopfpgkgjdcal.Mem Go.Proofs.Ytnoopfpgkgjdcal.Laws Go.Proofs.Ytnoopfpgkgjdcal.Bytes Go.Proofs.Ytnoopfpgkgjdcal.Sha
set_option linter.unusedVariables false
set_option linter.unusedSimpArgs false

set_option maxRecDepth 1000000 in
set_option maxHeartbeats 1000000 in
theorem pre_impl (w : World) (s : ByteArray) (hs : s.size ≤ 1000000000000) :
    Calls Try.prog 38 #[.string s] w fun e w' => e = .returned (.bool (pre (sb s))) ∧ Below w.heap.size w w' := by
  go_enter Try.func38, Try.ntmps38
  go_wp2_with fail
  refine (parts_impl w s 46 (by omega) (by omega) hs).mono ?_
  rintro e w1 ⟨v1, rfl, o1, b1⟩
  obtain ⟨T, hT⟩ : ∃ T, T = splitT 46 s := ⟨_, rfl⟩
  have hTs := splitT_size 46 s
  have hTl := splitT_len 46 s
  have hTm := splitT_sb 46 s
  rw [← hT] at o1 hTs hTl hTm
  have hT0 : 0 < T.length := by
    have := splitL_pos 46 (sb s) []
    have h2 : T.length = (split 46 (sb s)).length := by rw [← hTm, List.length_map]
    rw [h2]; exact this
  have HP : Hid (pre (sb s) = (T.all (fun t => part (sb t)) && decide (T.length ≤ 4))) := by
    show _ = _
    unfold pre
    rw [← hTm, List.all_map, List.length_map]
    rfl
  obtain ⟨g, cap, rfl, hg1, hg2, hcap, hc⟩ := ownForm o1 (by rw [ss_len]; exact hT0)
  rw [ss_len] at hcap hc
  rw [ss_len]
  have HC : Hid (∀ j, j < T.length → w1.cell? ⟨g, j, none⟩ = (ss T)[j]?) := hc
  have HTs : Hid (∀ t ∈ T, t.size ≤ s.size) := hTs
  clear hT hTs hTm hc o1
  by_cases h4 : 4 < T.length
  · have HN : Hid (pre (sb s) = false) := by
      show _ = _
      rw [HP.out, decide_eq_false (by omega)]
      simp
    go_wp2
    go_ret
    exact ⟨by rw [HN.out]; rfl, b1⟩
  have h41 : T.length ≤ 4 := by omega
  go_wp2
  go_loopw [13] (fun i wr => ∃ k : Nat, k ≤ T.length ∧ i = .int .i64 (k : Int) ∧ Hid ((T.take k).all (fun t => part (sb t)) = true) ∧ Below w1.heap.size w1 wr) (fun i _ => T.length - (intOf i).toNat)
  case atStart => exact ⟨0, Nat.zero_le _, rfl, rfl, Below.refl _ _⟩
  case round =>
    obtain ⟨k, hk, rfl, HA, hb⟩ := hrel
    have s1 := hb.size
    have s2 := b1.size
    by_cases hlt : k < T.length
    · obtain ⟨t, ht⟩ : ∃ t, T[k]? = some t := ⟨T[k], by simp [hlt]⟩
      have hcell : wr.cell? ⟨g, k, none⟩ = some (.string t) := by rw [hb.cell (p := ⟨g, k, none⟩) hg2, HC.out k hlt, ss_get, ht]; rfl
      have htm := HTs.out t (List.mem_of_getElem? ht)
      have HT : Hid (T[k]? = some t) := ht
      have q := part_impl wr t (by omega)
      obtain ⟨pb, hpb⟩ : ∃ b, part (sb t) = b := ⟨_, rfl⟩
      have HB : Hid (part (sb t) = pb) := hpb
      rw [hpb] at q
      clear ht hpb
      cases pb
      · have HN : Hid (pre (sb s) = false) := by
          show _ = _
          rw [HP.out]
          have : T.all (fun t => part (sb t)) = false := by
            rw [List.all_eq_false]
            exact ⟨t, List.mem_of_getElem? HT.out, by simp [HB.out]⟩
          rw [this]; rfl
        go_wp2_with (go_at_call 48; refine q.mono ?_; rintro e w' ⟨rfl, bq⟩)
        go_ret
        exact ⟨by rw [HN.out]; rfl, (b1.trans (hb.mono s2)).trans (bq.mono (Nat.le_trans s2 s1))⟩
      · have HN : Hid ((T.take (k + 1)).all (fun t => part (sb t)) = true) := by
          show _ = _
          rw [List.take_succ_eq_append_getElem hlt, List.all_append, HA.out]
          have : T[k] = t := by have := HT.out; rw [List.getElem?_eq_getElem hlt] at this; simpa using this
          simp [this, HB.out]
        go_wp2_with (go_at_call 48; refine q.mono ?_; rintro e w' ⟨rfl, bq⟩)
        go_roundw
        case rel => exact ⟨k + 1, by omega, by go_num, HN, hb.trans (bq.mono s1)⟩
        case measure => simp [intOf]; omega
    · have HN : Hid (pre (sb s) = true) := by
        show _ = _
        have h1 := HA.out
        rw [List.take_of_length_le (by omega)] at h1
        rw [HP.out, h1, decide_eq_true h41]
        rfl
      go_wp2
      go_ret
      exact ⟨by rw [HN.out]; rfl, b1.trans (hb.mono s2)⟩

set_option maxRecDepth 1000000 in
theorem partok_impl (w : World) (r : Int) : Calls Try.prog 37 #[.int .i64 r] w fun e w' => e = .returned (.bool (decide (0 ≤ r ∧ r ≤ 1000000))) ∧ w' = w := by
  by_cases h1 : 0 ≤ r
  · by_cases h2 : r ≤ 1000000
    · have HR : Hid (decide (0 ≤ r ∧ r ≤ 1000000) = true) := by show _ = _; simp [h1, h2]
      go_enter Try.func37, Try.ntmps37
      go_wp2
      go_ret
      exact ⟨by simp [h1, h2], rfl⟩
    · have HR : Hid (decide (0 ≤ r ∧ r ≤ 1000000) = false) := by show _ = _; simp [h2]
      go_enter Try.func37, Try.ntmps37
      go_wp2
      go_ret
      exact ⟨by simp [h1, h2], rfl⟩
  · have HR : Hid (decide (0 ≤ r ∧ r ≤ 1000000) = false) := by show _ = _; simp [h1]
    go_enter Try.func37, Try.ntmps37
    go_wp2
    go_ret
    exact ⟨by simp [h1]; omega, rfl⟩

set_option maxRecDepth 1000000 in
set_option maxHeartbeats 1000000 in
theorem ok_impl (w : World) (a b c : Int) (p : ByteArray) (hp : p.size ≤ 1000000000000) :
    Calls Try.prog 24 #[ver a b c p] w fun e w' => e = .returned (.bool (okV a b c p)) ∧ Below w.heap.size w w' := by
  obtain ⟨b1, e1⟩ : ∃ x, decide ((0 : Int) ≤ a ∧ a ≤ 1000000) = x := ⟨_, rfl⟩
  obtain ⟨b2, e2⟩ : ∃ x, decide ((0 : Int) ≤ b ∧ b ≤ 1000000) = x := ⟨_, rfl⟩
  obtain ⟨b3, e3⟩ : ∃ x, decide ((0 : Int) ≤ c ∧ c ≤ 1000000) = x := ⟨_, rfl⟩
  obtain ⟨b4, e4⟩ : ∃ x, decide (p.size = 0) = x := ⟨_, rfl⟩
  have he : p.toList.isEmpty = b4 := by rw [toList_empty, e4]
  obtain ⟨b5, e5⟩ : ∃ x, pre (sb p) = x := ⟨_, rfl⟩
  have HO : Hid (okV a b c p = (b1 && b2 && b3 && (b4 || b5))) := by show _ = _; unfold okV inM; rw [e1, e2, e3, e4, e5]
  have q := pre_impl (w.alloc (.cells #[.int .i64 a, .int .i64 b, .int .i64 c, .string p] 28)) p hp
  rw [e5] at q
  have hB : Below w.heap.size w (w.alloc (.cells #[.int .i64 a, .int .i64 b, .int .i64 c, .string p] 28)) := (Below.refl _ _).alloc (Nat.le_refl _) _
  have HB : Hid _ := hB
  clear e4 e5 hB
  unfold ver
  cases b1
  · go_enter Try.func24, Try.ntmps24
    go_wp2_with (go_at_call 37; refine (partok_impl _ _).mono ?_; rintro e w' ⟨rfl, rfl⟩; first | rw [e1] | rw [e2] | rw [e3])
    go_ret
    exact ⟨by rw [HO.out]; rfl, HB.out⟩
  · cases b2
    · go_enter Try.func24, Try.ntmps24
      go_wp2_with (go_at_call 37; refine (partok_impl _ _).mono ?_; rintro e w' ⟨rfl, rfl⟩; first | rw [e1] | rw [e2] | rw [e3])
      go_ret
      exact ⟨by rw [HO.out]; rfl, HB.out⟩
    · cases b3
      · go_enter Try.func24, Try.ntmps24
        go_wp2_with (go_at_call 37; refine (partok_impl _ _).mono ?_; rintro e w' ⟨rfl, rfl⟩; first | rw [e1] | rw [e2] | rw [e3])
        go_ret
        exact ⟨by rw [HO.out]; rfl, HB.out⟩
      · cases b4
        · go_enter Try.func24, Try.ntmps24
          go_wp2_with (first | (go_at_call 37; refine (partok_impl _ _).mono ?_; rintro e w' ⟨rfl, rfl⟩; first | rw [e1] | rw [e2] | rw [e3]) | (go_at_call 38; refine q.mono ?_; rintro e w' ⟨rfl, bq⟩))
          go_ret
          exact ⟨by rw [HO.out]; rfl, HB.out.trans (bq.mono (by simp))⟩
        · go_enter Try.func24, Try.ntmps24
          go_wp2_with (go_at_call 37; refine (partok_impl _ _).mono ?_; rintro e w' ⟨rfl, rfl⟩; first | rw [e1] | rw [e2] | rw [e3])
          go_ret
          exact ⟨by rw [HO.out]; rfl, HB.out⟩

end Go.Proofs.Ytnoopfpgkgjdcal.Ver
