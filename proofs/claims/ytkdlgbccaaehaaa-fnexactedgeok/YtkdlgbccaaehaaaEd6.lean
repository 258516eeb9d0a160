/- Chapter 7, the specification's side: the root of an edge. -/
import Derived.Test.YtkdlgbccaaehaaaEd5
namespace Go.Proofs.Ytkdlgbccaaehaaa.Ed
open Go.RowKit Go.Proofs.Ytkdlgbccaaehaaa.Mem Go.Proofs.Ytkdlgbccaaehaaa.Laws Go.Proofs.Ytkdlgbccaaehaaa.Bytes Go.Proofs.Ytkdlgbccaaehaaa.Sha Go.Proofs.Ytkdlgbccaaehaaa.Tr
set_option linter.unusedVariables false
set_option linter.unusedSimpArgs false

theorem slGet {w : World} {ao : Option Addr} {L cap : Nat} {l : List ByteArray} (h : Sl w (.slice ao L cap) (ss l)) {k : Nat} {s : ByteArray} (hs : l[k]? = some s) : ∃ b off, ao = some ⟨b, off, none⟩ ∧ w.cell? ⟨b, off + k, none⟩ = some (.string s) := by
  have hk : k < l.length := (List.getElem?_eq_some_iff.1 hs).1
  obtain ⟨ao', c', he, _, _, hr⟩ := h
  rw [ss_len] at he hr
  simp only [Value.slice.injEq] at he
  obtain ⟨rfl, _, rfl⟩ := he
  obtain ⟨b, off, he, hc⟩ := hr (by omega)
  exact ⟨b, off, he, by rw [hc k hk]; simp [ss, hs]⟩
theorem eroot_drop {hs : List ByteArray} {k : Nat} {g : ByteArray} (hg : hs[k]? = some g) (hk : k + 1 < hs.length) : eroot (hs.drop k) = nodeH g (eroot (hs.drop (k + 1))) := by
  obtain ⟨h1, rfl⟩ := List.getElem?_eq_some_iff.1 hg
  rw [List.drop_eq_getElem_cons h1]
  exact eroot_cons (by intro h; have := congrArg List.length h; simp at this; omega)
theorem eroot_last {hs : List ByteArray} {k : Nat} {g : ByteArray} (hg : hs[k]? = some g) (hk : k + 1 = hs.length) : eroot (hs.drop k) = g := by
  obtain ⟨h1, rfl⟩ := List.getElem?_eq_some_iff.1 hg
  rw [List.drop_eq_getElem_cons h1, List.drop_eq_nil_of_le (by omega)]
  rfl
theorem popc_pos : ∀ n : Fin 256, 1 ≤ n.val → 1 ≤ popc n.val := by decide +kernel

end Go.Proofs.Ytkdlgbccaaehaaa.Ed
