/- Chapter 9, the specification's side: how many tiles. -/
import Derived.Test.YthcmkpdmdkpebaaTi1
import Derived.Test.YthcmkpdmdkpebaaTr8
namespace Go.Proofs.Ythcmkpdmdkpebaa.Ti
open Go.RowKit Go.Proofs.Ythcmkpdmdkpebaa.Mem Go.Proofs.Ythcmkpdmdkpebaa.Laws Go.Proofs.Ythcmkpdmdkpebaa.Bytes Go.Proofs.Ythcmkpdmdkpebaa.Sha Go.Proofs.Ythcmkpdmdkpebaa.Tr
set_option linter.unusedVariables false
set_option linter.unusedSimpArgs false

theorem span_le : ∀ j : Nat, j ≤ 3 → 1 ≤ 4 ^ j ∧ 4 ^ j ≤ 64 := by
  intro j hj
  match j, hj with
  | 0, _ => decide
  | 1, _ => decide
  | 2, _ => decide
  | 3, _ => decide

set_option maxRecDepth 1000000 in
set_option maxHeartbeats 1000000 in
theorem span_spec (w : World) (j : Nat) (hj : j ≤ 3) : Calls Try.prog 7 #[.int .i64 (j : Int)] w fun e w' => e = .returned (.int .i64 ((4 ^ j : Nat) : Int)) ∧ w = w' := by
  go_enter Try.func7, Try.ntmps7
  go_wp2
  go_loopw [3, 4] (fun n i wr => ∃ k P : Nat, k ≤ j ∧ P ≤ 64 ∧ Hid (P = 4 ^ k) ∧ i = .int .i64 (k : Int) ∧ n = .int .i64 (P : Int) ∧ w = wr) (fun _ i _ => j - (intOf i).toNat)
  case atStart => exact ⟨0, 1, Nat.zero_le _, by omega, rfl, rfl, rfl, rfl⟩
  case round =>
    obtain ⟨k, P, hk, hP, HP, rfl, rfl, rfl⟩ := hrel
    by_cases hlt : k < j
    · have h4 : 4 * P ≤ 64 := by
        have := (span_le (k + 1) (by omega)).2
        rw [Nat.pow_succ, ← HP.out] at this
        omega
      have HN : Hid (4 * P = 4 ^ (k + 1)) := by show _ = _; rw [Nat.pow_succ, ← HP.out]; omega
      clear HP
      go_wp2
      go_roundw
      case rel => exact ⟨k + 1, 4 * P, by omega, h4, HN, by go_num, by go_num, by trivial⟩
      case measure => simp [intOf]; omega
    · have HN : Hid (4 ^ j = P) := by
        show _ = _
        rw [HP.out]
        congr 1
        omega
      clear HP
      go_wp2
      go_ret
      exact ⟨by rw [HN.out]; rfl, rfl⟩

theorem tileCount_yes {m j : Nat} (hm : m ≤ 200) (hj : j ≤ 3) : tileCount (m : Int) (j : Int) = (m / 4 ^ j + 3) / 4 := by
  unfold tileCount cnt
  rw [if_pos ⟨⟨by omega, by omega⟩, by omega, by omega⟩]
  simp
theorem quo_ok {m S : Nat} (hd : m / S ≤ 200) : wrap64 ((wrap64 (wrap64 ((m : Int) / (S : Int)) + 3)).tdiv 4) = (((m / S + 3) / 4 : Nat) : Int) := by
  have ed : (m : Int) / (S : Int) = ((m / S : Nat) : Int) := by simp
  rw [ed]
  generalize m / S = D at hd ⊢
  have e1 : wrap64 (D : Int) = (D : Int) := by unfold wrap64; omega
  have e2 : wrap64 ((D : Int) + 3) = (D : Int) + 3 := by unfold wrap64; omega
  rw [e1, e2, Int.tdiv_eq_ediv_of_nonneg (by omega)]
  unfold wrap64
  omega
theorem tileCount_no {n level : Int} (h : ¬ ((0 ≤ n ∧ n ≤ 200) ∧ 0 ≤ level ∧ level ≤ 3)) : tileCount n level = 0 := by unfold tileCount; rw [if_neg h]

set_option maxRecDepth 1000000 in
set_option maxHeartbeats 1000000 in
theorem count_spec (w : World) (n level : Int) : Calls Try.prog 4 #[.int .i64 n, .int .i64 level] w fun e w' => e = .returned (.int .i64 (tileCount n level : Int)) ∧ w = w' := by
  by_cases hn : 0 ≤ n ∧ n ≤ 200
  · have q0 := in6t w hn
    by_cases hv : 0 ≤ level ∧ level ≤ 3
    · have q1 := in6t w hv
      obtain ⟨m, rfl⟩ : ∃ m : Nat, n = (m : Int) := ⟨n.toNat, by omega⟩
      obtain ⟨j, rfl⟩ : ∃ m : Nat, level = (m : Int) := ⟨level.toNat, by omega⟩
      have hm : m ≤ 200 := by omega
      have q2 := span_spec w j (by omega)
      have hS := span_le j (by omega)
      have HN : Hid (tileCount (m : Int) (j : Int) = (m / 4 ^ j + 3) / 4) := tileCount_yes (by omega) (by omega)
      obtain ⟨S, hSS⟩ : ∃ S, 4 ^ j = S := ⟨_, rfl⟩
      rw [hSS] at q2 hS HN
      obtain ⟨T, hT⟩ : ∃ T : Nat, tileCount (m : Int) (j : Int) = T := ⟨_, rfl⟩
      rw [hT] at HN ⊢
      obtain ⟨hS0, hS1⟩ := hS
      have hd : m / S ≤ 200 := Nat.le_trans (Nat.div_le_self _ _) hm
      have ez : ¬ (S : Int) = 0 := by omega
      clear hSS hT hv hn
      go_enter Try.func4, Try.ntmps4
      go_wp2_with fail
      refine q0.mono ?_
      rintro e w0 ⟨rfl, rfl⟩
      go_wp2_with fail
      refine q1.mono ?_
      rintro e w0 ⟨rfl, rfl⟩
      go_wp2_with fail
      refine q2.mono ?_
      rintro e w0 ⟨rfl, rfl⟩
      go_wp2
      go_ret
      refine ⟨?_, rfl⟩
      rw [HN.out, quo_ok hd]
      rfl
    · have q1 := in6f w hv
      have HN : Hid (tileCount n level = 0) := tileCount_no (fun h => hv h.2)
      obtain ⟨T, hT⟩ : ∃ T : Nat, tileCount n level = T := ⟨_, rfl⟩
      rw [hT] at HN ⊢
      clear hT hn hv
      go_enter Try.func4, Try.ntmps4
      go_wp2_with fail
      refine q0.mono ?_
      rintro e w0 ⟨rfl, rfl⟩
      go_wp2_with fail
      refine q1.mono ?_
      rintro e w0 ⟨rfl, rfl⟩
      go_wp2
      go_ret
      exact ⟨by rw [HN.out]; rfl, rfl⟩
  · have q0 := in6f w hn
    have HN : Hid (tileCount n level = 0) := tileCount_no (fun h => hn h.1)
    obtain ⟨T, hT⟩ : ∃ T : Nat, tileCount n level = T := ⟨_, rfl⟩
    rw [hT] at HN ⊢
    clear hT hn
    go_enter Try.func4, Try.ntmps4
    go_wp2_with fail
    refine q0.mono ?_
    rintro e w0 ⟨rfl, rfl⟩
    go_wp2
    go_ret
    exact ⟨by rw [HN.out]; rfl, rfl⟩

end Go.Proofs.Ythcmkpdmdkpebaa.Ti
