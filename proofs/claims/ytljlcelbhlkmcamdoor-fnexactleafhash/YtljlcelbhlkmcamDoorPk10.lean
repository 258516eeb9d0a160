/- Texts in one: TsB. -/
import Derived.Test.YtljlcelbhlkmcamDoorPk6
import Derived.WalkSmall
import Derived.BigQuiet
/- Chapter 6, the landed code: halves. -/
namespace Go.Proofs.YtljlcelbhlkmcamDoor.Tr
open Go.RowKit Go.Proofs.YtljlcelbhlkmcamDoor.Mem Go.Proofs.YtljlcelbhlkmcamDoor.Laws Go.Proofs.YtljlcelbhlkmcamDoor.Bytes Go.Proofs.YtljlcelbhlkmcamDoor.Sha
set_option linter.unusedVariables false
set_option linter.unusedSimpArgs false

theorem half_log : ∀ y : Fin 256, 1 ≤ y.val → 2 ^ y.val.log2 = half (y.val + 1) := by decide +kernel
theorem log_small : ∀ y : Fin 256, y.val.log2 < 8 := by decide +kernel

set_option maxRecDepth 1000000 in
set_option maxHeartbeats 1000000 in
theorem len64_tab (w : World) (x : Nat) (h1 : 1 ≤ x) (h2 : x ≤ 255) : Calls Tryd.prog 108 #[.int .u64 (x : Int)] w fun e w' => (∃ (b : ByteArray) (hb : x < b.size), e = .returned (.int .i64 (wrap64 (wrap64 (b[x].toNat : Int)))) ∧ ∀ y : Fin 256, 1 ≤ y.val → b.data[y.val]?.map UInt8.toNat = some (y.val.log2 + 1)) ∧ w' = w := by
  have d1 : ¬ (4294967296 : Int) ≤ (x : Int) := by omega
  have d2 : ¬ (65536 : Int) ≤ (x : Int) := by omega
  have d3 : ¬ (256 : Int) ≤ (x : Int) := by omega
  go_enter Tryd.func108, Tryd.ntmps108
  go_wp2
  go_ret
  exact ⟨⟨_, _, rfl, by decide +kernel⟩, rfl⟩
theorem len64_any (w : World) (x : Nat) (h1 : 1 ≤ x) (h2 : x ≤ 255) : Calls Tryd.prog 108 #[.int .u64 (x : Int)] w fun e w' => e = .returned (.int .i64 ((x.log2 : Int) + 1)) ∧ w' = w := by
  refine (len64_tab w x h1 h2).mono ?_
  rintro e w' ⟨⟨b, hb, rfl, ht⟩, rfl⟩
  refine ⟨?_, rfl⟩
  have h := ht ⟨x, by omega⟩ h1
  have hl := log_small ⟨x, by omega⟩
  simp only at h hl
  have e1 : b.data[x]? = some (b[x]'hb) := by
    have hs : x < b.data.size := hb
    rw [Array.getElem?_eq_getElem hs]
    rfl
  rw [e1] at h
  simp only [Option.map_some, Option.some.injEq] at h
  rw [h]
  have e2 : wrap64 (((x.log2 + 1 : Nat)) : Int) = (x.log2 : Int) + 1 := by
    unfold wrap64; omega
  rw [e2]
  have e3 : wrap64 ((x.log2 : Int) + 1) = (x.log2 : Int) + 1 := by
    unfold wrap64; omega
  rw [e3]

/-- the halves of a slice, cut by three indexes -/
theorem slHalves {w : World} {v : Value} {l : List ByteArray} (h : Sl w v (ss l)) (k : Nat) (h1 : 1 ≤ k) (h2 : k < l.length) : ∃ b off cap, v = .slice (some ⟨b, off, none⟩) l.length cap ∧ l.length ≤ cap ∧
    Sl w (.slice (some ⟨b, off, none⟩) k k) (ss (l.take k)) ∧ Sl w (.slice (some ⟨b, off + k, none⟩) (l.length - k) (l.length - k)) (ss (l.drop k)) := by
  obtain ⟨b, off, cap, rfl, hcap⟩ := slForm h (by rw [ss_len]; omega)
  rw [ss_len] at h hcap ⊢
  have s1 : Sl w (.slice (some ⟨b, off, none⟩) k cap) (ss (l.take k)) := by rw [← ss_take]; exact h.front k (by rw [ss_len]; omega)
  have s2 : Sl w (.slice (some ⟨b, off + k, none⟩) (l.length - k) (cap - k)) (ss (l.drop k)) := by rw [← ss_drop]; exact slBack h k (by rw [ss_len]; omega)
  refine ⟨b, off, cap, rfl, hcap, ?_, ?_⟩
  · obtain ⟨ao', c', he, _, _, hr⟩ := s1
    simp only [Value.slice.injEq] at he
    obtain ⟨rfl, he2, rfl⟩ := he
    exact ⟨_, k, by rw [← he2], by omega, fun h => (by cases h), hr⟩
  · obtain ⟨ao', c', he, _, _, hr⟩ := s2
    simp only [Value.slice.injEq] at he
    obtain ⟨rfl, he2, rfl⟩ := he
    exact ⟨_, l.length - k, by rw [← he2], by omega, fun h => (by cases h), hr⟩

end Go.Proofs.YtljlcelbhlkmcamDoor.Tr
