/- Chapter 4, the specification's side: what fits a path. -/
import Derived.Test.YtnoopfpgkgjdcalMod5
import Derived.Test.YtnoopfpgkgjdcalVer8
namespace Go.Proofs.Ytnoopfpgkgjdcal.Mod
open Go.RowKit Go.Proofs.Ytnoopfpgkgjdcal.Mem Go.Proofs.Ytnoopfpgkgjdcal.Laws Go.Proofs.Ytnoopfpgkgjdcal.Bytes Go.Proofs.Ytnoopfpgkgjdcal.Sha Go.Proofs.Ytnoopfpgkgjdcal.Ver
set_option linter.unusedVariables false
set_option linter.unusedSimpArgs false

set_option maxRecDepth 1000000 in
set_option maxHeartbeats 1000000 in
theorem fits_spec (w : World) (s : ByteArray) (a b c : Int) (p : ByteArray) (hs : s.size ≤ 1000000000000) (hp : p.size ≤ 1000000000000) :
    Calls Try.prog 12 #[.string s, ver a b c p] w fun e w' => e = .returned (.bool (fits4 s a b c p)) ∧ Below w.heap.size w w' := by
  have q1 := major_spec (w.alloc (.cells #[.int .i64 a, .int .i64 b, .int .i64 c, .string p] 28)) s hs
  have q2 : ∀ W, _ := fun W => ok_spec W a b c p hp
  have HM : Hid (fits4 s a b c p = (decide (0 < major4 s) && okV a b c p && (decide (a = major4 s) || (decide (major4 s = 1) && decide (a = 0))))) := rfl
  obtain ⟨m, hm⟩ : ∃ m, major4 s = m := ⟨_, rfl⟩
  obtain ⟨ok, hok⟩ : ∃ m, okV a b c p = m := ⟨_, rfl⟩
  rw [hm] at q1
  simp only [hok] at q2
  rw [hm, hok] at HM
  clear hm hok
  have HR0 : Hid (Vr (w.alloc (.cells #[.int .i64 a, .int .i64 b, .int .i64 c, .string p] 28)) w.heap.size a b c p) := heap_alloc_new w _
  have HB : Hid (Below w.heap.size w (w.alloc (.cells #[.int .i64 a, .int .i64 b, .int .i64 c, .string p] 28))) := (Below.refl _ _).alloc (Nat.le_refl _) _
  unfold ver at q2 ⊢
  go_enter Try.func12, Try.ntmps12
  go_wp2_with fail
  refine q1.mono ?_
  rintro e w1 ⟨rfl, b1⟩
  have r1 := Vr.same HR0.out b1
  have hb1 : Below w.heap.size w w1 := HB.out.trans (b1.mono (by simp))
  obtain ⟨k0, k1, k2, k3⟩ := Vr.cells r1
  clear HR0 HB q1 b1
  by_cases h0 : 0 < m
  · have d0 : decide (m > 0) = true := by simpa using h0
    have d0' : decide (0 < m) = true := by simpa using h0
    go_wp2_with fail
    refine (q2 _).mono ?_
    rintro e w2 ⟨rfl, b2⟩
    have r2 := Vr.same r1 b2
    have hb2 : Below w.heap.size w w2 := hb1.trans (b2.mono hb1.size)
    clear k0 k1 k2 k3 r1
    obtain ⟨k0, k1, k2, k3⟩ := Vr.cells r2
    cases ok
    · have HN : Hid (fits4 s a b c p = false) := by show _ = _; rw [HM.out]; simp
      clear HM
      go_wp2
      go_ret
      exact ⟨by rw [HN.out]; rfl, hb2⟩
    · by_cases h1 : a = m
      · have d1 : (a == m) = true := by simpa using h1
        have HN : Hid (fits4 s a b c p = true) := by show _ = _; rw [HM.out]; simp [h0, h1]
        clear HM
        go_wp2
        go_ret
        exact ⟨by rw [HN.out]; rfl, hb2⟩
      · have d1 : (a == m) = false := by simpa using h1
        by_cases h2 : m = 1
        · have d2 : (m == 1) = true := by simpa using h2
          have HN : Hid (fits4 s a b c p = (a == 1 || a == 0)) := by
            show _ = _
            have e1 : (a == 1) = false := by rw [← h2]; exact d1
            rw [HM.out, e1, decide_eq_false h1, decide_eq_true h2, d0']
            by_cases h3 : a = 0 <;> simp [h3]
          clear HM
          go_wp2
          go_ret
          exact ⟨by rw [HN.out]; rfl, hb2⟩
        · have d2 : (m == 1) = false := by simpa using h2
          have HN : Hid (fits4 s a b c p = false) := by show _ = _; rw [HM.out]; simp [h1, h2]
          clear HM
          go_wp2
          go_ret
          exact ⟨by rw [HN.out]; rfl, hb2⟩
  · have d0 : decide (m > 0) = false := by simpa using h0
    have d0' : decide (0 < m) = false := by simpa using h0
    have HN : Hid (fits4 s a b c p = false) := by show _ = _; rw [HM.out, d0']; rfl
    clear HM
    go_wp2
    go_ret
    exact ⟨by rw [HN.out]; rfl, hb1⟩

end Go.Proofs.Ytnoopfpgkgjdcal.Mod
