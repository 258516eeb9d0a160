/- Chapter 6, the landed code: halves. -/
import Derived.Test.YtkdlgbccaaehaabDoorTr6
import Derived.WalkSmall
import Derived.BigQuiet
namespace Go.Proofs.YtkdlgbccaaehaabDoor.Tr
open Go.RowKit Go.Proofs.YtkdlgbccaaehaabDoor.Mem Go.Proofs.YtkdlgbccaaehaabDoor.Laws Go.Proofs.YtkdlgbccaaehaabDoor.Bytes Go.Proofs.YtkdlgbccaaehaabDoor.Sha
set_option linter.unusedVariables false
set_option linter.unusedSimpArgs false

theorem half_log : ∀ y : Fin 256, 1 ≤ y.val → 2 ^ y.val.log2 = half (y.val + 1) := by decide +kernel
theorem log_small : ∀ y : Fin 256, y.val.log2 < 8 := by decide +kernel

/-- the halves of a slice, cut by three indexes -/
theorem slHalves {w : World} {v : Value} {l : List ByteArray} (h : Sl w v (ss l)) (k : Nat) (h1 : 1 ≤ k) (h2 : k < l.length) : ∃ b off cap, v = .slice (some ⟨b, off, none⟩) l.length cap ∧ l.length ≤ cap ∧
    Sl w (.slice (some ⟨b, off, none⟩) k k) (ss (l.take k)) ∧ Sl w (.slice (some ⟨b, off + k, none⟩) (l.length - k) (l.length - k)) (ss (l.drop k)) := by
  obtain ⟨b, off, cap, rfl, hcap⟩ := slForm h (by rw [ss_len]; omega)
  rw [ss_len] at h hcap ⊢
  have s1 : Sl w (.slice (some ⟨b, off, none⟩) k cap) (ss (l.take k)) := by rw [← ss_take]; exact h.front k (by rw [ss_len]; omega)
  have s2 : Sl w (.slice (some ⟨b, off + k, none⟩) (l.length - k) (cap - k)) (ss (l.drop k)) := by rw [← ss_drop]; exact slBack h k (by rw [ss_len]; omega)
  refine ⟨b, off, cap, rfl, hcap, ?_, ?_⟩
  · obtain ⟨ao', c', he, _, _, hr⟩ := s1
    simp only [Value.slice.injEq] at he
    obtain ⟨rfl, he2, rfl⟩ := he
    exact ⟨_, k, by rw [← he2], by omega, fun h => (by cases h), hr⟩
  · obtain ⟨ao', c', he, _, _, hr⟩ := s2
    simp only [Value.slice.injEq] at he
    obtain ⟨rfl, he2, rfl⟩ := he
    exact ⟨_, l.length - k, by rw [← he2], by omega, fun h => (by cases h), hr⟩

end Go.Proofs.YtkdlgbccaaehaabDoor.Tr
