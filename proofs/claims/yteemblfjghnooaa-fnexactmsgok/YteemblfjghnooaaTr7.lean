/- Chapter 6, the specification's side: the roots of a beginning and of all over a path. -/
import Derived.Test.YteemblfjghnooaaTr6
namespace Go.Proofs.Yteemblfjghnooaa.Tr
open Go.RowKit Go.Proofs.Yteemblfjghnooaa.Mem Go.Proofs.Yteemblfjghnooaa.Laws Go.Proofs.Yteemblfjghnooaa.Bytes Go.Proofs.Yteemblfjghnooaa.Sha
set_option linter.unusedVariables false
set_option linter.unusedSimpArgs false

theorem grown_size (m : Nat) : ∀ {n : Nat} {whole : Bool} {a : ByteArray} {p : List ByteArray}, a.size ≤ 10000000000 → (∀ s ∈ p, s.size ≤ 10000000000) → (grown n m whole a p).1.size ≤ 10000000000 ∧ (grown n m whole a p).2.1.size ≤ 10000000000 := by
  refine natRec (P := fun m => ∀ {n : Nat} {whole : Bool} {a : ByteArray} {p : List ByteArray}, a.size ≤ 10000000000 → (∀ s ∈ p, s.size ≤ 10000000000) → (grown n m whole a p).1.size ≤ 10000000000 ∧ (grown n m whole a p).2.1.size ≤ 10000000000) ?_ m
  intro m ih n whole a p ha hz
  by_cases hn : n = m
  · subst hn
    cases whole
    · by_cases hp : p.length = 1
      · obtain ⟨x, rfl⟩ := List.length_eq_one_iff.1 hp
        rw [grown_one]
        exact ⟨hz x (by simp), hz x (by simp)⟩
      · rw [grown_not a hp]
        exact ⟨Nat.zero_le _, Nat.zero_le _⟩
    · rw [grown_whole]
      exact ⟨ha, ha⟩
  · by_cases h : 2 ≤ m
    · have hk := half_ok h
      have hp := half_pos h
      rcases List.eq_nil_or_concat p with rfl | ⟨q, last, rfl⟩
      · rw [grown_nil hn h]; exact ⟨Nat.zero_le _, Nat.zero_le _⟩
      · rw [List.concat_eq_append] at *
        by_cases hi : n ≤ half m
        · rw [grown_low hn h hi]
          exact ⟨(ih (half m) (by omega) ha (fun s hs => hz s (by simp [hs]))).1, by simp only [nodeH_size]; omega⟩
        · rw [grown_high hn h hi]
          exact ⟨by simp only [nodeH_size]; omega, by simp only [nodeH_size]; omega⟩
    · rw [grown_if, if_neg hn, if_neg h]
      exact ⟨Nat.zero_le _, Nat.zero_le _⟩

end Go.Proofs.Yteemblfjghnooaa.Tr
