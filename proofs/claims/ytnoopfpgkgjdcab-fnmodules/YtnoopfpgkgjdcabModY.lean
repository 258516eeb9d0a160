/- Chapter 4, the landed code: what fits a path. -/
import Derived.Test.YtnoopfpgkgjdcabModW
namespace Go.Proofs.Ytnoopfpgkgjdcab.Mod
open Go.RowKit Go.Proofs.Ytnoopfpgkgjdcab.Mem Go.Proofs.Ytnoopfpgkgjdcab.Laws Go.Proofs.Ytnoopfpgkgjdcab.Bytes Go.Proofs.Ytnoopfpgkgjdcab.Sha Go.Proofs.Ytnoopfpgkgjdcab.Ver
set_option linter.unusedVariables false
set_option linter.unusedSimpArgs false

theorem major4_pos (s : ByteArray) : path4 (sb s) = decide (0 < major4 s) := by
  unfold major4
  have := maj4_bd s
  cases path4 (sb s)
  · rfl
  · rw [if_pos rfl]
    symm
    apply decide_eq_true
    split <;> omega

set_option maxRecDepth 1000000 in
set_option maxHeartbeats 2000000 in
theorem fits_impl (w : World) (s : ByteArray) (a b c : Int) (p : ByteArray) (hs : s.size ≤ 1000000000000) (hp : p.size ≤ 1000000000000) :
    Calls Try.prog 21 #[.string s, ver a b c p] w fun e w' => e = .returned (.bool (fits4 s a b c p)) ∧ Below w.heap.size w w' := by
  have q1 := path_impl (w.alloc (.cells #[.int .i64 a, .int .i64 b, .int .i64 c, .string p] 25)) s hs
  have q2 : ∀ W, _ := fun W => ok_impl W a b c p hp
  have q3 : ∀ W, _ := fun W => major_impl W s hs
  have HM : Hid (fits4 s a b c p = (path4 (sb s) && okV a b c p && (decide (a = major4 s) || (decide (major4 s = 1) && decide (a = 0))))) := by show _ = _; unfold fits4; rw [major4_pos]
  obtain ⟨pk, hpk⟩ : ∃ m, path4 (sb s) = m := ⟨_, rfl⟩
  obtain ⟨m, hm⟩ : ∃ m, major4 s = m := ⟨_, rfl⟩
  obtain ⟨ok, hok⟩ : ∃ m, okV a b c p = m := ⟨_, rfl⟩
  rw [hpk] at q1
  simp only [hok] at q2
  simp only [hm] at q3
  rw [hm, hok, hpk] at HM
  clear hm hok hpk
  have HR0 : Hid (Vr (w.alloc (.cells #[.int .i64 a, .int .i64 b, .int .i64 c, .string p] 25)) w.heap.size a b c p) := heap_alloc_new w _
  have HB : Hid (Below w.heap.size w (w.alloc (.cells #[.int .i64 a, .int .i64 b, .int .i64 c, .string p] 25))) := (Below.refl _ _).alloc (Nat.le_refl _) _
  unfold ver at q2 ⊢
  go_enter Try.func21, Try.ntmps21
  go_wp2_with fail
  refine q1.mono ?_
  rintro e w1 ⟨rfl, b1⟩
  have r1 := Vr.same HR0.out b1
  have hb1 : Below w.heap.size w w1 := HB.out.trans (b1.mono (by simp))
  obtain ⟨k0, k1, k2, k3⟩ := Vr.cells r1
  clear HR0 HB q1 b1
  cases pk
  · have HN : Hid (fits4 s a b c p = false) := HM.out
    clear HM
    go_wp2
    go_ret
    exact ⟨by rw [HN.out]; rfl, hb1⟩
  go_wp2_with fail
  refine (q2 _).mono ?_
  rintro e w2 ⟨rfl, b2⟩
  have r2 := Vr.same r1 b2
  have hb2 : Below w.heap.size w w2 := hb1.trans (b2.mono hb1.size)
  clear k0 k1 k2 k3 r1 b2 q2
  cases ok
  · have HN : Hid (fits4 s a b c p = false) := HM.out
    clear HM
    go_wp2
    go_ret
    exact ⟨by rw [HN.out]; rfl, hb2⟩
  go_wp2_with fail
  refine (q3 _).mono ?_
  rintro e w3 ⟨rfl, b3⟩
  have r3 := Vr.same r2 b3
  have hb3 : Below w.heap.size w w3 := hb2.trans (b3.mono hb2.size)
  clear r2 b3 q3
  obtain ⟨k0, k1, k2, k3⟩ := Vr.cells r3
  replace HM : Hid (fits4 s a b c p = (decide (a = m) || (decide (m = 1) && decide (a = 0)))) := HM.out
  by_cases h1 : a = m
  · have d1 : (a == m) = true := by simpa using h1
    have HN : Hid (fits4 s a b c p = true) := by show _ = _; rw [HM.out]; simp [h1]
    clear HM h1
    go_wp2
    go_ret
    exact ⟨by rw [HN.out]; rfl, hb3⟩
  have d1 : (a == m) = false := by simpa using h1
  by_cases h2 : m = 1
  · by_cases h3 : a = 0
    · have d2 : (m == 1) = true := by simpa using h2
      have d3 : (a == 0) = true := by simpa using h3
      have HN : Hid (fits4 s a b c p = true) := by show _ = _; rw [HM.out]; simp [h2, h3]
      clear HM h1 h2 h3
      go_wp2
      go_ret
      exact ⟨by rw [HN.out]; rfl, hb3⟩
    · have d2 : (m == 1) = true := by simpa using h2
      have d3 : (a == 0) = false := by simpa using h3
      have HN : Hid (fits4 s a b c p = false) := by show _ = _; rw [HM.out]; simp [h1, h3]
      clear HM h1 h2 h3
      go_wp2
      go_ret
      exact ⟨by rw [HN.out]; rfl, hb3⟩
  · have d2 : (m == 1) = false := by simpa using h2
    have HN : Hid (fits4 s a b c p = false) := by show _ = _; rw [HM.out]; simp [h1, h2]
    clear HM h1 h2
    go_wp2
    go_ret
    exact ⟨by rw [HN.out]; rfl, hb3⟩

end Go.Proofs.Ytnoopfpgkgjdcab.Mod
