/- Chapter 9, the landed code: how many texts a node is over, how many tiles there are. -/
import Derived.Test.YthcmkpdmdkpebaaDoorTi2
namespace Go.Proofs.YthcmkpdmdkpebaaDoor.Ti
open Go.RowKit Go.Proofs.YthcmkpdmdkpebaaDoor.Mem Go.Proofs.YthcmkpdmdkpebaaDoor.Laws Go.Proofs.YthcmkpdmdkpebaaDoor.Bytes Go.Proofs.YthcmkpdmdkpebaaDoor.Sha Go.Proofs.YthcmkpdmdkpebaaDoor.Tr
set_option linter.unusedVariables false
set_option linter.unusedSimpArgs false

set_option maxRecDepth 1000000 in
set_option maxHeartbeats 1000000 in
theorem below_impl (w : World) (j : Nat) (hj : j ≤ 3) : Calls Tryd.prog 21 #[.int .i64 (j : Int)] w fun e w' => e = .returned (.int .i64 ((4 ^ j : Nat) : Int)) ∧ w = w' := by
  go_enter Tryd.func21, Tryd.ntmps21
  go_wp2
  go_loopw [3, 5] (fun n i wr => ∃ k P : Nat, k ≤ j ∧ P ≤ 64 ∧ Hid (P = 4 ^ k) ∧ i = .int .i64 (k : Int) ∧ n = .int .i64 (P : Int) ∧ w = wr) (fun _ i _ => j - (intOf i).toNat)
  case atStart => exact ⟨0, 1, Nat.zero_le _, by omega, rfl, rfl, rfl, rfl⟩
  case round =>
    obtain ⟨k, P, hk, hP, HP, rfl, rfl, rfl⟩ := hrel
    by_cases hlt : k < j
    · have h4 : P * 4 ≤ 64 := by
        have := (span_le (k + 1) (by omega)).2
        rw [Nat.pow_succ, ← HP.out] at this
        omega
      have HN : Hid (P * 4 = 4 ^ (k + 1)) := by show _ = _; rw [Nat.pow_succ, ← HP.out]
      clear HP
      go_wp2
      go_roundw
      case rel => exact ⟨k + 1, P * 4, by omega, h4, HN, by go_num, by go_num, by trivial⟩
      case measure => simp [intOf]; omega
    · have HN : Hid (4 ^ j = P) := by
        show _ = _
        rw [HP.out]
        congr 1
        omega
      clear HP
      go_wp2
      go_ret
      exact ⟨by rw [HN.out]; rfl, rfl⟩

theorem quo_ok2 {m S : Nat} (hd : m / S ≤ 200) : wrap64 ((wrap64 (wrap64 (wrap64 ((m : Int) / (S : Int)) + 4) - 1)).tdiv 4) = (((m / S + 3) / 4 : Nat) : Int) := by
  have ed : (m : Int) / (S : Int) = ((m / S : Nat) : Int) := by simp
  rw [ed]
  generalize m / S = D at hd ⊢
  have e1 : wrap64 (D : Int) = (D : Int) := by unfold wrap64; omega
  have e2 : wrap64 ((D : Int) + 4) = (D : Int) + 4 := by unfold wrap64; omega
  have e3 : wrap64 ((D : Int) + 4 - 1) = (D : Int) + 3 := by unfold wrap64; omega
  rw [e1, e2, e3, Int.tdiv_eq_ediv_of_nonneg (by omega)]
  unfold wrap64
  omega

set_option maxRecDepth 1000000 in
set_option maxHeartbeats 1000000 in
theorem count_impl (w : World) (n level : Int) : Calls Tryd.prog 8 #[.int .i64 n, .int .i64 level] w fun e w' => e = .returned (.int .i64 (tileCount n level : Int)) ∧ w = w' := by
  by_cases h0 : n < 0
  · have HN : Hid (tileCount n level = 0) := tileCount_no (fun h => by omega)
    obtain ⟨T, hT⟩ : ∃ T : Nat, tileCount n level = T := ⟨_, rfl⟩
    rw [hT] at HN ⊢
    clear hT
    go_enter Tryd.func8, Tryd.ntmps8
    go_wp2
    go_ret
    exact ⟨by rw [HN.out]; rfl, rfl⟩
  by_cases h1 : 200 < n
  · have HN : Hid (tileCount n level = 0) := tileCount_no (fun h => by omega)
    obtain ⟨T, hT⟩ : ∃ T : Nat, tileCount n level = T := ⟨_, rfl⟩
    rw [hT] at HN ⊢
    clear hT
    go_enter Tryd.func8, Tryd.ntmps8
    go_wp2
    go_ret
    exact ⟨by rw [HN.out]; rfl, rfl⟩
  by_cases h2 : level < 0
  · have HN : Hid (tileCount n level = 0) := tileCount_no (fun h => by omega)
    obtain ⟨T, hT⟩ : ∃ T : Nat, tileCount n level = T := ⟨_, rfl⟩
    rw [hT] at HN ⊢
    clear hT
    go_enter Tryd.func8, Tryd.ntmps8
    go_wp2
    go_ret
    exact ⟨by rw [HN.out]; rfl, rfl⟩
  by_cases h3 : 4 ≤ level
  · have HN : Hid (tileCount n level = 0) := tileCount_no (fun h => by omega)
    obtain ⟨T, hT⟩ : ∃ T : Nat, tileCount n level = T := ⟨_, rfl⟩
    rw [hT] at HN ⊢
    clear hT
    go_enter Tryd.func8, Tryd.ntmps8
    go_wp2
    go_ret
    exact ⟨by rw [HN.out]; rfl, rfl⟩
  obtain ⟨m, rfl⟩ : ∃ m : Nat, n = (m : Int) := ⟨n.toNat, by omega⟩
  obtain ⟨j, rfl⟩ : ∃ m : Nat, level = (m : Int) := ⟨level.toNat, by omega⟩
  have hm : m ≤ 200 := by omega
  have q2 := below_impl w j (by omega)
  have hS := span_le j (by omega)
  have HN : Hid (tileCount (m : Int) (j : Int) = (m / 4 ^ j + 3) / 4) := tileCount_yes (by omega) (by omega)
  obtain ⟨S, hSS⟩ : ∃ S, 4 ^ j = S := ⟨_, rfl⟩
  rw [hSS] at q2 hS HN
  obtain ⟨T, hT⟩ : ∃ T : Nat, tileCount (m : Int) (j : Int) = T := ⟨_, rfl⟩
  rw [hT] at HN ⊢
  obtain ⟨hS0, hS1⟩ := hS
  have hd : m / S ≤ 200 := Nat.le_trans (Nat.div_le_self _ _) hm
  have ez : ¬ (S : Int) = 0 := by omega
  clear hSS hT
  go_enter Tryd.func8, Tryd.ntmps8
  go_wp2_with fail
  refine q2.mono ?_
  rintro e w0 ⟨rfl, rfl⟩
  go_wp2
  go_ret
  refine ⟨?_, rfl⟩
  rw [HN.out, quo_ok2 hd]
  rfl

end Go.Proofs.YthcmkpdmdkpebaaDoor.Ti
