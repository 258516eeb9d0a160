/- Chapter 4, the specification's side: the number that a path's last part tells. -/
import Derived.Test.YtnoopfpgkgjdcabMod2
import Derived.Test.YtnoopfpgkgjdcabVer6
namespace Go.Proofs.Ytnoopfpgkgjdcab.Ver
open Go.RowKit Go.Proofs.Ytnoopfpgkgjdcab.Mem Go.Proofs.Ytnoopfpgkgjdcab.Laws Go.Proofs.Ytnoopfpgkgjdcab.Bytes Go.Proofs.Ytnoopfpgkgjdcab.Sha
set_option linter.unusedVariables false
set_option linter.unusedSimpArgs false

/-- a path's last part; the number that it tells, 0 if none -/
def lastT (s : ByteArray) : ByteArray := (splitT 47 s).getLast?.getD ⟨#[]⟩
def in4 (n : Int) : Int := if 2 ≤ n ∧ n ≤ 1000 then n else 0
def maj4 (s : ByteArray) : Int :=
  if (splitT 47 s).length < 2 ∨ (sb (lastT s)).head? ≠ some 118 then 0 else in4 (number (sb ((lastT s).extract 1 (lastT s).size)))
def major4 (s : ByteArray) : Int := if path4 (sb s) = true then (if maj4 s = 0 then 1 else maj4 s) else 0

theorem maj4_bd (s : ByteArray) : maj4 s = 0 ∨ (2 ≤ maj4 s ∧ maj4 s ≤ 1000) := by
  unfold maj4 in4
  split
  · exact .inl rfl
  · split
    · rename_i h; exact .inr h
    · exact .inl rfl

theorem head_none {t : ByteArray} (h : t.size = 0) : (sb t).head? = none := by
  have : sb t = [] := List.eq_nil_of_length_eq_zero (by rw [sb_len]; exact h)
  rw [this]; rfl
theorem head_get {t : ByteArray} (h : 0 < t.size) : (sb t).head? = some (t[0].toNat : Int) := by
  rw [List.head?_eq_getElem?, sb_get t 0 h]

set_option maxRecDepth 1000000 in
set_option maxHeartbeats 1000000 in
theorem maj_spec (w : World) (s : ByteArray) (hs : s.size ≤ 1000000000000) :
    Calls Try.prog 41 #[.string s] w fun e w' => e = .returned (.int .i64 (maj4 s)) ∧ Below w.heap.size w w' := by
  go_enter Try.func41, Try.ntmps41
  go_wp2_with fail
  refine (split_spec w s 47 (by omega) (by omega) hs).mono ?_
  rintro e w1 ⟨v1, rfl, o1, b1⟩
  have hTs := splitT_size 47 s
  have hTl := splitT_len 47 s
  have hT0 := splitT_pos 47 s
  have HM : Hid (maj4 s = if (splitT 47 s).length < 2 ∨ (sb (lastT s)).head? ≠ some 118 then 0 else in4 (number (sb ((lastT s).extract 1 (lastT s).size)))) := rfl
  have HL : Hid (lastT s = (splitT 47 s).getLast?.getD ⟨#[]⟩) := rfl
  obtain ⟨T, hT⟩ : ∃ T, splitT 47 s = T := ⟨_, rfl⟩
  rw [hT] at o1 hTs hTl hT0 HM HL
  clear hT
  obtain ⟨t, ht⟩ : ∃ t, T[T.length - 1]? = some t := ⟨T[T.length - 1], by rw [List.getElem?_eq_getElem (by omega)]⟩
  have hlast : lastT s = t := by rw [HL.out, List.getLast?_eq_getElem?, ht]; rfl
  rw [hlast] at HM
  have hts := hTs t (List.mem_of_getElem? ht)
  obtain ⟨g, cap, rfl, hg1, hg2, hcap, hc⟩ := ownForm o1 (by rw [ss_len]; exact hT0)
  rw [ss_len] at hcap hc
  rw [ss_len]
  have hcell : w1.cell? ⟨g, T.length - 1, none⟩ = some (.string t) := by rw [hc _ (by omega), ss_get, ht]; rfl
  clear hc ht hTs HL hlast o1
  have dn : ((T.length : Int) - 1).toNat = T.length - 1 := by omega
  have v0 : (0 : Int) ≤ (T.length : Int) - 1 := by omega
  have v1 : (T.length : Int) - 1 < (T.length : Int) := by omega
  by_cases h2 : T.length < 2
  · have d2 : decide ((T.length : Int) < 2) = true := by simp; omega
    have HN : Hid (maj4 s = 0) := by show _ = _; rw [HM.out, if_pos (.inl h2)]
    clear HM
    go_wp2
    go_ret
    exact ⟨by rw [HN.out]; rfl, b1⟩
  · have d2 : decide ((T.length : Int) < 2) = false := by simp; omega
    by_cases h0 : t.size = 0
    · have he : t.toList.isEmpty = true := by rw [toList_empty]; exact decide_eq_true h0
      have HN : Hid (maj4 s = 0) := by show _ = _; rw [HM.out, if_pos (.inr (by rw [head_none h0]; simp))]
      clear HM
      go_wp2
      go_ret
      exact ⟨by rw [HN.out]; rfl, b1⟩
    · have he : t.toList.isEmpty = false := by rw [toList_empty]; exact decide_eq_false h0
      have hp : 0 < t.size := by omega
      have hh := head_get hp
      by_cases hv : (t[0].toNat : Int) = 118
      · have dv : ((t[0].toNat : Int) != 118) = false := by simpa using hv
        have HN : Hid (maj4 s = in4 (number (sb (t.extract 1 t.size)))) := by
          show _ = _
          rw [HM.out, if_neg (by rintro (h | h); exact h2 h; exact h (by rw [hh, hv]))]
        have hu : (t.extract 1 t.size).size ≤ s.size := by simp; omega
        have q : ∀ W, _ := fun W => number_spec W (t.extract 1 t.size) (by omega)
        obtain ⟨u, hu'⟩ : ∃ u, t.extract 1 t.size = u := ⟨_, rfl⟩
        rw [hu'] at HN hu
        simp only [hu'] at q
        obtain ⟨n, hn⟩ : ∃ n, number (sb u) = n := ⟨_, rfl⟩
        rw [hn] at HN
        simp only [hn] at q
        clear HM hh hv hn
        by_cases hr : 2 ≤ n ∧ n ≤ 1000
        · have dr : decide ((2 : Int) ≤ n ∧ n ≤ 1000) = true := by simpa using hr
          have HN2 : Hid (maj4 s = n) := by show _ = _; rw [HN.out]; unfold in4; rw [if_pos hr]
          clear HN
          go_wp2_with (first | (go_at_call 61; refine (q _).mono ?_; rintro e w' ⟨rfl, rfl⟩) | (go_at_call 49; refine (in_spec _ _ _ _).mono ?_; rintro e w' ⟨rfl, rfl⟩; rw [dr]))
          go_ret
          exact ⟨by rw [HN2.out]; rfl, b1⟩
        · have dr : decide ((2 : Int) ≤ n ∧ n ≤ 1000) = false := by simpa using hr
          have HN2 : Hid (maj4 s = 0) := by show _ = _; rw [HN.out]; unfold in4; rw [if_neg hr]
          clear HN
          go_wp2_with (first | (go_at_call 61; refine (q _).mono ?_; rintro e w' ⟨rfl, rfl⟩) | (go_at_call 49; refine (in_spec _ _ _ _).mono ?_; rintro e w' ⟨rfl, rfl⟩; rw [dr]))
          go_ret
          exact ⟨by rw [HN2.out]; rfl, b1⟩
      · have dv : ((t[0].toNat : Int) != 118) = true := by simpa using hv
        have HN : Hid (maj4 s = 0) := by
          show _ = _
          rw [HM.out, if_pos (.inr (by rw [hh]; simpa using hv))]
        clear HM hh hv
        go_wp2
        go_ret
        exact ⟨by rw [HN.out]; rfl, b1⟩

end Go.Proofs.Ytnoopfpgkgjdcab.Ver
