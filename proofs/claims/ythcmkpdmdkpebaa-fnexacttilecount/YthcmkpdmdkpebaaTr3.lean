/- Chapter 6, the specification's side: roots. -/
import Derived.Test.YthcmkpdmdkpebaaTr2
namespace Go.Proofs.Ythcmkpdmdkpebaa.Tr
open Go.RowKit Go.Proofs.Ythcmkpdmdkpebaa.Mem Go.Proofs.Ythcmkpdmdkpebaa.Laws Go.Proofs.Ythcmkpdmdkpebaa.Bytes Go.Proofs.Ythcmkpdmdkpebaa.Sha
set_option linter.unusedVariables false
set_option linter.unusedSimpArgs false

/-- the end of a slice -/
theorem slBack {w : World} {b off n cap : Nat} {cs : List Value} (h : Sl w (.slice (some ⟨b, off, none⟩) n cap) cs) (k : Nat) (hk : k < cs.length) : Sl w (.slice (some ⟨b, off + k, none⟩) (n - k) (cap - k)) (cs.drop k) := by
  obtain ⟨ao', cap', he, hc, hn, hr⟩ := h
  simp only [Value.slice.injEq] at he
  obtain ⟨rfl, rfl, rfl⟩ := he
  have hl : (cs.drop k).length = cs.length - k := by simp
  obtain ⟨b', off', he', hcell⟩ := hr (by omega)
  simp only [Option.some.injEq, Addr.mk.injEq] at he'
  obtain ⟨rfl, rfl, _⟩ := he'
  refine ⟨some ⟨b, off + k, none⟩, cap - k, by rw [hl], by rw [hl]; omega, fun h => (by cases h), fun hp => ⟨b, off + k, rfl, fun j hj => ?_⟩⟩
  rw [Nat.add_assoc, hcell (k + j) (by rw [hl] at hj; omega), List.getElem?_drop]
theorem slForm {w : World} {v : Value} {cs : List Value} (h : Sl w v cs) (hp : 0 < cs.length) : ∃ b off cap, v = .slice (some ⟨b, off, none⟩) cs.length cap ∧ cs.length ≤ cap := by
  obtain ⟨ao, cap, rfl, hc, _, hr⟩ := h
  obtain ⟨b, off, rfl, _⟩ := hr hp
  exact ⟨b, off, cap, rfl, hc⟩
theorem ss_take (l : List ByteArray) (k : Nat) : (ss l).take k = ss (l.take k) := by simp [ss]
theorem ss_drop (l : List ByteArray) (k : Nat) : (ss l).drop k = ss (l.drop k) := by simp [ss]

end Go.Proofs.Ythcmkpdmdkpebaa.Tr
