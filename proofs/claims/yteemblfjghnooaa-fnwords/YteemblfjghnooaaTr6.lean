/- Chapter 6, the specification's side: roots over a path. -/
import Derived.Test.YteemblfjghnooaaTr5
namespace Go.Proofs.Yteemblfjghnooaa.Tr
open Go.RowKit Go.Proofs.Yteemblfjghnooaa.Mem Go.Proofs.Yteemblfjghnooaa.Laws Go.Proofs.Yteemblfjghnooaa.Bytes Go.Proofs.Yteemblfjghnooaa.Sha
set_option linter.unusedVariables false
set_option linter.unusedSimpArgs false

/-- a slice of texts that ends with one: where that lies, and what is ahead of it -/
theorem slLast {w : World} {v : Value} {q : List ByteArray} {last : ByteArray} (h : Sl w v (ss (q ++ [last]))) : ∃ b off cap L, v = .slice (some ⟨b, off, none⟩) L cap ∧ L ≤ q.length + 1 ∧ q.length + 1 ≤ L ∧ L ≤ cap ∧
    w.cell? ⟨b, off + (L - 1), none⟩ = some (.string last) ∧ Sl w (.slice (some ⟨b, off, none⟩) (L - 1) cap) (ss q) := by
  have hl : (ss (q ++ [last])).length = q.length + 1 := by rw [ss_len, List.length_append]; rfl
  obtain ⟨b, off, cap, rfl, hcap⟩ := slForm h (by omega)
  refine ⟨b, off, cap, (ss (q ++ [last])).length, rfl, by omega, by omega, hcap, ?_, ?_⟩
  · obtain ⟨ao', c', he, _, _, hr⟩ := h
    simp only [Value.slice.injEq] at he
    obtain ⟨rfl, _, rfl⟩ := he
    obtain ⟨b', off', he', hcell⟩ := hr (by omega)
    simp only [Option.some.injEq, Addr.mk.injEq] at he'
    obtain ⟨rfl, rfl, _⟩ := he'
    rw [hcell _ (by omega), hl]
    simp [ss]
  · have := h.front ((ss (q ++ [last])).length - 1) (by omega)
    rw [ss_take, show (q ++ [last]).take ((ss (q ++ [last])).length - 1) = q by rw [hl]; simp] at this
    exact this

theorem up_size {leaf : ByteArray} {n i : Nat} {p : List ByteArray} (h : leaf.size ≤ 10000000000) : (up leaf i n p).1.size ≤ 10000000000 := by
  by_cases h2 : 2 ≤ n
  · rcases List.eq_nil_or_concat p with rfl | ⟨q, last, rfl⟩
    · rw [up_nil h2]; exact Nat.zero_le _
    · rw [List.concat_eq_append]
      by_cases hi : i < half n
      · rw [up_low h2 hi]; simp only [nodeH_size]; omega
      · rw [up_high h2 hi]; simp only [nodeH_size]; omega
  · rw [up_no h2]; exact h

end Go.Proofs.Yteemblfjghnooaa.Tr
