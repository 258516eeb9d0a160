/- Texts in one: RowSl. -/
import Derived.Test.YtchonoonclllbaaGreatDoorPh1
import Derived.OpenShut
set_option maxHeartbeats 16000000
set_option linter.unusedVariables false
set_option linter.unusedSimpArgs false
namespace Go.Proofs.YtchonoonclllbaaGreatDoor.RowSl
open Go.RowKit Mem
theorem row_sl {w : World} {a : Option Addr} {len cap : Nat} {zs : List Int}
  (h : (a = none ∧ len = 0 ∧ cap = 0 ∧ zs = []) ∨ ∃ x, a = some x ∧ len ≤ cap ∧ cap ≤ maxLen ∧ zs.length = cap ∧ (∀ i, i < zs.length → w.cell? (x.add i) = some (.int .u8 (zs.getD i 0))) ∧ ∀ n ∈ zs, (Lit.int .u8 n).wf = true) :
  ∃ xs : List Int, Sl w (.slice a len cap) (bs xs) ∧ len = xs.length ∧ Byt xs := by
 rcases h with ⟨rfl, rfl, rfl, rfl⟩ | ⟨x, rfl, hl, hm, hz, hc, hw⟩
 ·exact ⟨[], Sl.nil w, rfl, fun x hx => by cases hx⟩
 ·have hlen : (zs.take len).length = len := by simp; omega
  refine ⟨zs.take len, ⟨some x, cap, by rw [bs_len, hlen], by rw [bs_len, hlen]; exact hl, fun h => (by cases h), fun hp => ?_⟩, hlen.symm, fun y hy => ?_⟩
  ·rw [bs_len, hlen] at hp
   obtain ⟨b, off, rfl, hcell⟩ := ints_at hc (by omega)
   refine ⟨b, off, rfl, fun j hj => ?_⟩
   rw [bs_len, hlen] at hj
   rw [hcell j (by omega), bs_get, List.getElem?_take, if_pos hj]
   simp [show j < zs.length by omega]
  ·have := hw y (List.mem_of_mem_take hy)
   simpa [Lit.wf, IntKind.min, IntKind.max, IntKind.signed, IntKind.bits] using this
end Go.Proofs.YtchonoonclllbaaGreatDoor.RowSl
