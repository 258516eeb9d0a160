/- Chapter 4, the landed code: a path cut before its last part; a path's number, its base, what fits it. -/
import Derived.Test.YtnoopfpgkgjdcabModV
import Derived.Test.YtnoopfpgkgjdcabImpD
import Derived.Test.YtnoopfpgkgjdcabMod6
namespace Go.Proofs.Ytnoopfpgkgjdcab.Mod
open Go.RowKit Go.Proofs.Ytnoopfpgkgjdcab.Mem Go.Proofs.Ytnoopfpgkgjdcab.Laws Go.Proofs.Ytnoopfpgkgjdcab.Bytes Go.Proofs.Ytnoopfpgkgjdcab.Sha Go.Proofs.Ytnoopfpgkgjdcab.Ver
set_option linter.unusedVariables false
set_option linter.unusedSimpArgs false

theorem suf_impl (s : ByteArray) (hs : s.size ≤ 60) : ∃ (f : ByteArray) (m : Bool), (∀ W, Calls Try.prog 55 #[.string s, .string (⟨#[47]⟩ ++ lastT s)] W fun e w' => e = .returned (.tuple #[.string f, .bool m]) ∧ w' = W) ∧
    ((m = false ∧ ¬ 2 ≤ (splitT 47 s).length) ∨ (m = true ∧ 2 ≤ (splitT 47 s).length ∧ f = s.extract 0 (s.size - (1 + (lastT s).size)))) := by
  have hz := slashed_size (lastT s)
  rcases last_form s with ⟨h1, h2⟩ | ⟨h1, q, h2⟩
  · exact ⟨s, false, fun W => cuts_no W s (slashed (lastT s)) (by omega) (by omega) (by omega), .inl ⟨rfl, by omega⟩⟩
  · obtain ⟨h3, h4⟩ := suffix_of h2
    refine ⟨_, true, fun W => cuts_yes W s (slashed (lastT s)) (by omega) h3 h4, .inr ⟨rfl, h1, by rw [hz]⟩⟩

theorem lastT_size (s : ByteArray) : (lastT s).size ≤ s.size := by
  rcases last_form s with ⟨h1, h2⟩ | ⟨h1, q, h2⟩
  · omega
  · have hl := congrArg List.length h2
    rw [sb_len] at hl
    simp [sb_len] at hl
    omega
theorem vOff_size (t : ByteArray) : (vOff t).size ≤ t.size := by
  unfold vOff
  split
  · simp
  · exact Nat.le_refl _

set_option maxRecDepth 1000000 in
set_option maxHeartbeats 2000000 in
theorem cutm_impl (w : World) (s : ByteArray) (hs : s.size ≤ 60) :
    Calls Try.prog 36 #[.string s] w fun e w' => e = .returned (.tuple #[.string (cutB s), .int .i64 (cutN s)]) ∧ Below w.heap.size w w' := by
  obtain ⟨f, m, q2, hfm⟩ := suf_impl s hs
  have q1 := last_impl w s hs
  have ht := lastT_size s
  have hu := vOff_size (lastT s)
  have q3 : ∀ W, _ := fun W => cutp_impl W (lastT s) (by omega)
  have q4 : ∀ W, _ := fun W => upto4_impl W (vOff (lastT s)) (by omega)
  have HM : Hid (maj4 s = if 2 ≤ (splitT 47 s).length ∧ vAt (lastT s) = true ∧ (upTo (sb (vOff (lastT s))) 1000).2 = true ∧ 2 ≤ (upTo (sb (vOff (lastT s))) 1000).1 then (upTo (sb (vOff (lastT s))) 1000).1 else 0) := maj4_tests s
  have HB : Hid (cutB s = if maj4 s = 0 then s else s.extract 0 (s.size - (1 + (lastT s).size))) := rfl
  have HC : Hid (cutN s = if maj4 s = 0 then 1 else maj4 s) := rfl
  obtain ⟨t, hT⟩ : ∃ t, lastT s = t := ⟨_, rfl⟩
  rw [hT] at q1 ht hu HM HB hfm
  simp only [hT] at q2 q3 q4
  obtain ⟨u, hU⟩ : ∃ u, vOff t = u := ⟨_, rfl⟩
  obtain ⟨k, hK⟩ : ∃ k, vAt t = k := ⟨_, rfl⟩
  rw [hU] at hu
  rw [hU, hK] at HM
  simp only [hU, hK] at q3 q4
  obtain ⟨n, hN⟩ : ∃ n, (upTo (sb u) 1000).1 = n := ⟨_, rfl⟩
  obtain ⟨o, hO⟩ : ∃ n, (upTo (sb u) 1000).2 = n := ⟨_, rfl⟩
  rw [hN, hO] at HM
  simp only [hN, hO] at q4
  clear hT hU hK hN hO
  have HF : Hid ((m = false ∧ ¬ 2 ≤ (splitT 47 s).length) ∨ (m = true ∧ 2 ≤ (splitT 47 s).length ∧ f = s.extract 0 (s.size - (1 + t.size)))) := hfm
  clear hfm
  go_enter Try.func36, Try.ntmps36
  go_wp2_with fail
  refine q1.mono ?_
  rintro e w1 ⟨rfl, b1⟩
  go_wp2_with fail
  refine (q2 _).mono ?_
  rintro e w2 ⟨rfl, rfl⟩
  go_wp2_with fail
  refine (q3 _).mono ?_
  rintro e w3 ⟨rfl, rfl⟩
  go_wp2_with fail
  refine (q4 _).mono ?_
  rintro e w4 ⟨rfl, b4⟩
  have hB : Below w.heap.size w w4 := b1.trans (b4.mono b1.size)
  clear q1 q2 q3 q4 b1 b4
  have no : ¬ (m = true ∧ k = true ∧ o = true ∧ 2 ≤ n) → Hid (cutB s = s ∧ cutN s = 1) := by
    intro h
    have h0 : maj4 s = 0 := by
      rw [HM.out, if_neg]
      rintro ⟨h1, h2, h3, h4⟩
      apply h
      refine ⟨?_, h2, h3, h4⟩
      rcases HF.out with ⟨_, h5⟩ | ⟨h5, _⟩
      · exact absurd h1 h5
      · exact h5
    exact ⟨by rw [HB.out, if_pos h0], by rw [HC.out, if_pos h0]⟩
  cases m
  · have HN := no (by simp)
    clear no
    go_wp2
    go_ret2
    exact ⟨by rw [HN.out.1, HN.out.2]; rfl, hB⟩
  cases k
  · have HN := no (by simp)
    clear no
    go_wp2
    go_ret2
    exact ⟨by rw [HN.out.1, HN.out.2]; rfl, hB⟩
  cases o
  · have HN := no (by simp)
    clear no
    go_wp2
    go_ret2
    exact ⟨by rw [HN.out.1, HN.out.2]; rfl, hB⟩
  by_cases h2 : n < 2
  · have HN := no (by rintro ⟨_, _, _, h⟩; omega)
    clear no
    go_wp2
    go_ret2
    exact ⟨by rw [HN.out.1, HN.out.2]; rfl, hB⟩
  · have HN : Hid (cutB s = f ∧ cutN s = n) := by
      rcases HF.out with ⟨h5, _⟩ | ⟨_, h6, h7⟩
      · cases h5
      · have h0 : maj4 s = n := by rw [HM.out, if_pos ⟨h6, rfl, rfl, by omega⟩]
        have h1 : n ≠ 0 := by omega
        exact ⟨by rw [HB.out, h0, if_neg h1, h7], by rw [HC.out, h0, if_neg h1]⟩
    clear no
    go_wp2
    go_ret2
    exact ⟨by rw [HN.out.1, HN.out.2]; rfl, hB⟩

theorem path60 {s : ByteArray} (h : path4 (sb s) = true) : s.size ≤ 60 := by
  unfold path4 at h
  rw [Bool.and_eq_true, sb_len] at h
  exact of_decide_eq_true h.2

set_option maxRecDepth 1000000 in
set_option maxHeartbeats 1000000 in
theorem major_impl (w : World) (s : ByteArray) (hs : s.size ≤ 1000000000000) :
    Calls Try.prog 17 #[.string s] w fun e w' => e = .returned (.int .i64 (major4 s)) ∧ Below w.heap.size w w' := by
  have q1 := path_impl w s hs
  have HM : Hid (major4 s = if path4 (sb s) = true then cutN s else 0) := rfl
  have H6 : Hid (path4 (sb s) = true → s.size ≤ 60) := path60
  obtain ⟨ok, hok⟩ : ∃ b, path4 (sb s) = b := ⟨_, rfl⟩
  rw [hok] at q1 HM H6
  clear hok
  go_enter Try.func17, Try.ntmps17
  go_wp2_with fail
  refine q1.mono ?_
  rintro e w1 ⟨rfl, b1⟩
  cases ok
  · have HN : Hid (major4 s = 0) := HM.out
    clear HM
    go_wp2
    go_ret
    exact ⟨by rw [HN.out]; rfl, b1⟩
  · have HN : Hid (major4 s = cutN s) := HM.out
    have q2 := cutm_impl w1 s (H6.out rfl)
    obtain ⟨n, hn⟩ : ∃ n, cutN s = n := ⟨_, rfl⟩
    obtain ⟨c, hc⟩ : ∃ n, cutB s = n := ⟨_, rfl⟩
    rw [hn] at HN
    simp only [hn, hc] at q2
    clear hn hc HM H6
    go_wp2_with fail
    refine q2.mono ?_
    rintro e w2 ⟨rfl, b2⟩
    have hB : Below w.heap.size w w2 := b1.trans (b2.mono b1.size)
    go_wp2
    go_ret
    exact ⟨by rw [HN.out]; rfl, hB⟩

set_option maxRecDepth 1000000 in
set_option maxHeartbeats 1000000 in
theorem base_impl (w : World) (s : ByteArray) (hs : s.size ≤ 1000000000000) :
    Calls Try.prog 23 #[.string s] w fun e w' => e = .returned (.string (base4 s)) ∧ Below w.heap.size w w' := by
  have q1 := path_impl w s hs
  have HM : Hid (path4 (sb s) = true → base4 s = cutB s) := cutB_base
  have HZ : Hid (path4 (sb s) = false → base4 s = ⟨#[]⟩) := by
    intro h
    unfold base4
    rw [if_neg (by simp [h])]
  have H6 : Hid (path4 (sb s) = true → s.size ≤ 60 ∧ (base4 s).size ≤ s.size) := fun h => ⟨path60 h, (base4_form h).2.1⟩
  obtain ⟨ok, hok⟩ : ∃ b, path4 (sb s) = b := ⟨_, rfl⟩
  rw [hok] at q1 HM H6 HZ
  clear hok
  go_enter Try.func23, Try.ntmps23
  go_wp2_with fail
  refine q1.mono ?_
  rintro e w1 ⟨rfl, b1⟩
  cases ok
  · have HN : Hid (base4 s = ⟨#[]⟩) := HZ.out rfl
    clear HM HZ
    go_wp2
    go_ret
    exact ⟨by rw [HN.out]; rfl, b1⟩
  · have HN : Hid (base4 s = cutB s) := HM.out rfl
    obtain ⟨h6, h7⟩ := H6.out rfl
    have q2 := cutm_impl w1 s h6
    obtain ⟨n, hn⟩ : ∃ n, cutN s = n := ⟨_, rfl⟩
    obtain ⟨c, hc⟩ : ∃ n, cutB s = n := ⟨_, rfl⟩
    rw [hc] at HN
    simp only [hn, hc] at q2
    rw [HN.out] at h7
    have q3 : ∀ W, _ := fun W => clone_impl W c (by omega)
    clear hn hc HM H6 HZ
    go_wp2_with fail
    refine q2.mono ?_
    rintro e w2 ⟨rfl, b2⟩
    have hB : Below w.heap.size w w2 := b1.trans (b2.mono b1.size)
    go_wp2_with fail
    refine (q3 _).mono ?_
    rintro e w3 ⟨rfl, b3⟩
    have hB3 : Below w.heap.size w w3 := hB.trans (b3.mono hB.size)
    go_wp2
    go_ret
    exact ⟨by rw [HN.out]; rfl, hB3⟩

end Go.Proofs.Ytnoopfpgkgjdcab.Mod
