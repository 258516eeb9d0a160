/- Texts in one: RowSl. -/
import Derived.Test.YtbopliahafkecaaGreatDoorPk1
import Derived.OpenShut
/- A slice of bytes that came in, as the laws' proofs are told of it, reads as a list of bytes. -/
namespace Go.Proofs.YtbopliahafkecaaGreatDoor.RowSl
open Go.RowKit Go.Proofs.YtbopliahafkecaaGreatDoor.Mem

theorem row_sl {w : World} {a : Option Addr} {len cap : Nat} {zs : List Int}
    (h : (a = none ∧ len = 0 ∧ cap = 0 ∧ zs = []) ∨ ∃ x, a = some x ∧ len ≤ cap ∧ cap ≤ maxLen ∧ zs.length = cap ∧ (∀ i, i < zs.length → w.cell? (x.add i) = some (.int .u8 (zs.getD i 0))) ∧ ∀ n ∈ zs, (Lit.int .u8 n).wf = true) :
    ∃ xs : List Int, Sl w (.slice a len cap) (bs xs) ∧ len = xs.length ∧ Byt xs := by
  rcases h with ⟨rfl, rfl, rfl, rfl⟩ | ⟨x, rfl, hl, hm, hz, hc, hw⟩
  · exact ⟨[], Sl.nil w, rfl, fun x hx => by cases hx⟩
  · have hlen : (zs.take len).length = len := by simp; omega
    refine ⟨zs.take len, ⟨some x, cap, by rw [bs_len, hlen], by rw [bs_len, hlen]; exact hl, fun h => (by cases h), fun hp => ?_⟩, hlen.symm, fun y hy => ?_⟩
    · rw [bs_len, hlen] at hp
      obtain ⟨b, off, rfl, hcell⟩ := ints_at hc (by omega)
      refine ⟨b, off, rfl, fun j hj => ?_⟩
      rw [bs_len, hlen] at hj
      rw [hcell j (by omega), bs_get, List.getElem?_take, if_pos hj]
      simp [show j < zs.length by omega]
    · have := hw y (List.mem_of_mem_take hy)
      simpa [Lit.wf, IntKind.min, IntKind.max, IntKind.signed, IntKind.bits] using this

theorem strs_at {w : World} {a : Addr} {zs : List ByteArray} (h : ∀ i, i < zs.length → w.cell? (a.add i) = some (.string (zs.getD i ByteArray.empty))) (hp : 0 < zs.length) :
    ∃ b off, a = ⟨b, off, none⟩ ∧ ∀ j, j < zs.length → w.cell? ⟨b, off + j, none⟩ = some (.string (zs.getD j ByteArray.empty)) := by
  obtain ⟨b, off, spot⟩ := a
  have hspot : spot = none := by simpa [Addr.add] using World.cell?_spot (h 0 hp)
  subst hspot
  exact ⟨b, off, rfl, fun j hj => by rw [← Go.WideShapes.add_plain]; exact h j hj⟩

theorem row_str {w : World} {x : Addr} {len cap : Nat} {zs : List ByteArray} (hl : len ≤ cap) (hm : cap ≤ maxLen) (hz : zs.length = cap)
    (hc : ∀ i, i < zs.length → w.cell? (x.add i) = some (.string (zs.getD i ByteArray.empty))) (hw : ∀ s ∈ zs, s.size ≤ maxLen) :
    ∃ l : List ByteArray, Sl w (.slice (some x) len cap) (ss l) ∧ (∀ s ∈ l, s.size ≤ maxLen) ∧ l.length ≤ maxLen := by
  have hlen : (zs.take len).length = len := by simp; omega
  refine ⟨zs.take len, ⟨some x, cap, by rw [ss_len, hlen], by rw [ss_len, hlen]; exact hl, fun h => (by cases h), fun hp => ?_⟩, fun s hs => hw s (List.mem_of_mem_take hs), by rw [hlen]; exact Nat.le_trans hl hm⟩
  rw [ss_len, hlen] at hp
  obtain ⟨b, off, rfl, hcell⟩ := strs_at hc (by omega)
  refine ⟨b, off, rfl, fun j hj => ?_⟩
  rw [ss_len, hlen] at hj
  rw [hcell j (by omega), ss_get, List.getElem?_take, if_pos hj]
  simp [show j < zs.length by omega]

theorem i64_bd {n : Int} (h : (Lit.int .i64 n).wf = true) : -9223372036854775808 ≤ n ∧ n ≤ 9223372036854775807 := by
  simpa [Lit.wf, IntKind.min, IntKind.max, IntKind.signed, IntKind.bits] using h

end Go.Proofs.YtbopliahafkecaaGreatDoor.RowSl
