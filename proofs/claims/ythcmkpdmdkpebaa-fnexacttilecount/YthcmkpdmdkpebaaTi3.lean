/- Chapter 9, the specification's side: tiles, and the root over one. -/
import Derived.Test.YthcmkpdmdkpebaaTi2
import Derived.Test.YthcmkpdmdkpebaaTrX
namespace Go.Proofs.Ythcmkpdmdkpebaa.Ti
open Go.RowKit Go.Proofs.Ythcmkpdmdkpebaa.Mem Go.Proofs.Ythcmkpdmdkpebaa.Laws Go.Proofs.Ythcmkpdmdkpebaa.Bytes Go.Proofs.Ythcmkpdmdkpebaa.Sha Go.Proofs.Ythcmkpdmdkpebaa.Tr
set_option linter.unusedVariables false
set_option linter.unusedSimpArgs false

theorem slMid {w : World} {v : Value} {l : List ByteArray} (h : Sl w v (ss l)) {A S : Nat} (hS : 1 ≤ S) (hA : A + S ≤ l.length) : ∃ b off cap, v = .slice (some ⟨b, off, none⟩) l.length cap ∧ l.length ≤ cap ∧
    Sl w (.slice (some ⟨b, off + A, none⟩) S (cap - A)) (ss ((l.drop A).take S)) := by
  obtain ⟨b, off, cap, rfl, hcap⟩ := slForm h (by rw [ss_len]; omega)
  rw [ss_len] at h hcap ⊢
  refine ⟨b, off, cap, rfl, hcap, ?_⟩
  have h1 := slBack h A (by rw [ss_len]; omega)
  have h2 := h1.front S (by rw [ss_drop, ss_len, List.length_drop]; omega)
  rw [ss_drop, ss_take] at h2
  exact h2
theorem tileOf_yes {l : List ByteArray} {j q : Nat} (h : q + 1 ≤ tileCount (l.length : Int) (j : Int)) : tileOf l (j : Int) (q : Int) = tl l (4 ^ j) 4 (4 * q) := by
  unfold tileOf
  rw [if_pos ⟨by omega, by omega⟩]
  simp
theorem tileOf_no {l : List ByteArray} {level i : Int} (h : ¬ (0 ≤ i ∧ i ≤ (tileCount (l.length : Int) level : Int) - 1)) : tileOf l level i = [] := by unfold tileOf; rw [if_neg h]
theorem tl_no {l : List ByteArray} {s k : Nat} (h : ¬ (k + 1) * s ≤ l.length) (n : Nat) : tl l s n k = [] := by
  cases n with
  | zero => rfl
  | succ n => rw [tl, if_neg h]
theorem tl_yes {l : List ByteArray} {s k : Nat} (h : (k + 1) * s ≤ l.length) (n : Nat) : tl l s (n + 1) k = nd l s k :: tl l s n (k + 1) := by rw [tl, if_pos h]

theorem troot_one (a : ByteArray) : troot [a] = a := rfl
theorem troot_more {t : List ByteArray} (h : 2 ≤ t.length) (h4 : t.length ≤ 4) : troot t = nodeH (troot (t.take (half t.length))) (troot (t.drop (half t.length))) := by
  match t, h, h4 with
  | [a, b], _, _ => rfl
  | [a, b, c], _, _ => rfl
  | [a, b, c, d], _, _ => rfl
  | _ :: _ :: _ :: _ :: _ :: _, _, h4 => simp at h4
theorem troot_le {n : Nat} (t : List ByteArray) (h : ∀ s ∈ t, s.size ≤ n) (hn : 32 ≤ n) : (troot t).size ≤ n := by
  unfold troot
  split
  · exact h _ (by simp)
  · rw [nodeH_size]; exact hn
  · rw [nodeH_size]; exact hn
  · rw [nodeH_size]; exact hn
  · exact Nat.zero_le _

end Go.Proofs.Ythcmkpdmdkpebaa.Ti
