/- Texts in one: TsB. -/
import Derived.Test.YtfpaichdkddglaaGreatDoorPm8
import Derived.WalkSmall
import Derived.BigQuiet
namespace Go.Proofs.YtfpaichdkddglaaGreatDoor.Tr
open Go.RowKit Go.Proofs.YtfpaichdkddglaaGreatDoor.Mem Go.Proofs.YtfpaichdkddglaaGreatDoor.Laws Go.Proofs.YtfpaichdkddglaaGreatDoor.Bytes Go.Proofs.YtfpaichdkddglaaGreatDoor.Sha
set_option linter.unusedVariables false
set_option linter.unusedSimpArgs false
theorem half_log : ∀ y : Fin 256, 1 ≤ y.val → 2 ^ y.val.log2 = half (y.val + 1) := by decide +kernel
theorem log_small : ∀ y : Fin 256, y.val.log2 < 8 := by decide +kernel
set_option maxRecDepth 1000000 in
set_option maxHeartbeats 1000000 in
theorem len64_tab (w : World) (x : Nat) (h1 : 1 ≤ x) (h2 : x ≤ 255) : Calls Tryz.prog 133 #[.int .u64 (x : Int)] w fun e w' => (∃ (b : ByteArray) (hb : x < b.size), e = .returned (.int .i64 (wrap64 (wrap64 (b[x].toNat : Int)))) ∧ ∀ y : Fin 256, 1 ≤ y.val → b.data[y.val]?.map UInt8.toNat = some (y.val.log2 + 1)) ∧ w' = w := by
 have d1 : ¬ (4294967296 : Int) ≤ (x : Int) := by omega
 have d2 : ¬ (65536 : Int) ≤ (x : Int) := by omega
 have d3 : ¬ (256 : Int) ≤ (x : Int) := by omega
 go_enter Tryz.func133, Tryz.ntmps133
 go_wp2
 go_ret
 exact ⟨⟨_, _, rfl, by decide +kernel⟩, rfl⟩
theorem len64_any (w : World) (x : Nat) (h1 : 1 ≤ x) (h2 : x ≤ 255) : Calls Tryz.prog 133 #[.int .u64 (x : Int)] w fun e w' => e = .returned (.int .i64 ((x.log2 : Int) + 1)) ∧ w' = w := by
 refine (len64_tab w x h1 h2).mono ?_
 rintro e w' ⟨⟨b, hb, rfl, ht⟩, rfl⟩
 refine ⟨?_, rfl⟩
 have h := ht ⟨x, by omega⟩ h1
 have hl := log_small ⟨x, by omega⟩
 simp only at h hl
 have e1 : b.data[x]? = some (b[x]'hb) := by
  have hs : x < b.data.size := hb
  rw [Array.getElem?_eq_getElem hs]
  rfl
 rw [e1] at h
 simp only [Option.map_some, Option.some.injEq] at h
 rw [h]
 have e2 : wrap64 (((x.log2 + 1 : Nat)) : Int) = (x.log2 : Int) + 1 := by
  unfold wrap64; omega
 rw [e2]
 have e3 : wrap64 ((x.log2 : Int) + 1) = (x.log2 : Int) + 1 := by
  unfold wrap64; omega
 rw [e3]
set_option maxRecDepth 1000000 in
set_option maxHeartbeats 1000000 in
theorem len_any (w : World) (x : Nat) (h1 : 1 ≤ x) (h2 : x ≤ 255) : Calls Tryz.prog 120 #[.int .u64 (x : Int)] w fun e w' => e = .returned (.int .i64 ((x.log2 : Int) + 1)) ∧ w' = w := by
 have q := len64_any w x h1 h2
 go_enter Tryz.func120, Tryz.ntmps120
 go_wp2_with fail
 refine q.mono ?_
 rintro e w1 ⟨rfl, hw⟩
 have hw := hw.symm
 subst hw
 go_wp2
 go_ret
 exact ⟨rfl, rfl⟩
set_option maxRecDepth 1000000 in
set_option maxHeartbeats 1000000 in
theorem half_impl (w : World) (n : Nat) (h1 : 2 ≤ n) (h2 : n ≤ 256) : Calls Tryz.prog 84 #[.int .i64 (n : Int)] w fun e w' => e = .returned (.int .i64 (half n : Int)) ∧ w' = w := by
 obtain ⟨x, rfl⟩ : ∃ x, n = x + 1 := ⟨n - 1, by omega⟩
 have q := len_any w x (by omega) (by omega)
 have HL := log_small ⟨x, by omega⟩
 have HE : Hid (2 ^ x.log2 = half (x + 1)) := half_log ⟨x, by omega⟩ (by show 1 ≤ x; omega)
 simp only at HL
 obtain ⟨k, hk⟩ : ∃ k, x.log2 = k := ⟨_, rfl⟩
 rw [hk] at q HL HE
 have e0 : ((x + 1 : Nat) : Int) = (x : Int) + 1 := by omega
 have e1 : IntKind.i64.wrap ((x : Int) + 1 - 1) = (x : Int) := by rw [IntKind.wrap_i64]; omega
 have e2 : IntKind.u64.wrap (x : Int) = (x : Int) := by rw [IntKind.wrap_u64]; omega
 have e3 : IntKind.i64.wrap ((k : Int) + 1 - 1) = (k : Int) := by rw [IntKind.wrap_i64]; omega
 clear hk
 rw [e0]
 go_enter Tryz.func84, Tryz.ntmps84
 go_wp2_with fail
 refine q.mono ?_
 rintro e w1 ⟨rfl, hw1⟩
 have hw1 := hw1.symm
 subst hw1
 go_wp2
 go_ret
 refine ⟨?_, rfl⟩
 have hp : 2 ^ k ≤ 128 := Nat.pow_le_pow_right (n := 2) (by omega) (show k ≤ 7 by omega)
 have hc : (2 : Int) ^ k = ((2 ^ k : Nat) : Int) := by simp
 have hw : wrap64 ((2 : Int) ^ k) = (half (x + 1) : Int) := by
  rw [hc, HE.out]
  rw [HE.out] at hp
  unfold wrap64
  omega
 rw [hw]
 rfl
theorem slHalves {w : World} {v : Value} {l : List ByteArray} (h : Sl w v (ss l)) (k : Nat) (h1 : 1 ≤ k) (h2 : k < l.length) : ∃ b off cap, v = .slice (some ⟨b, off, none⟩) l.length cap ∧ l.length ≤ cap ∧
  Sl w (.slice (some ⟨b, off, none⟩) k k) (ss (l.take k)) ∧ Sl w (.slice (some ⟨b, off + k, none⟩) (l.length - k) (l.length - k)) (ss (l.drop k)) := by
 obtain ⟨b, off, cap, rfl, hcap⟩ := slForm h (by rw [ss_len]; omega)
 rw [ss_len] at h hcap ⊢
 have s1 : Sl w (.slice (some ⟨b, off, none⟩) k cap) (ss (l.take k)) := by rw [← ss_take]; exact h.front k (by rw [ss_len]; omega)
 have s2 : Sl w (.slice (some ⟨b, off + k, none⟩) (l.length - k) (cap - k)) (ss (l.drop k)) := by rw [← ss_drop]; exact slBack h k (by rw [ss_len]; omega)
 refine ⟨b, off, cap, rfl, hcap, ?_, ?_⟩
 ·
  obtain ⟨ao', c', he, _, _, hr⟩ := s1
  simp only [Value.slice.injEq] at he
  obtain ⟨rfl, he2, rfl⟩ := he
  exact ⟨_, k, by rw [← he2], by omega, fun h => (by cases h), hr⟩
 ·
  obtain ⟨ao', c', he, _, _, hr⟩ := s2
  simp only [Value.slice.injEq] at he
  obtain ⟨rfl, he2, rfl⟩ := he
  exact ⟨_, l.length - k, by rw [← he2], by omega, fun h => (by cases h), hr⟩
set_option maxRecDepth 1000000 in
set_option maxHeartbeats 1000000 in
theorem halves_any (w : World) (v : Value) (l : List ByteArray) (h : Sl w v (ss l)) (h2 : 2 ≤ l.length) (h3 : l.length ≤ 256) :
  Calls Tryz.prog 50 #[v] w fun e w' => ∃ b off, e = .returned (.tuple #[.slice (some ⟨b, off, none⟩) (half l.length) (half l.length), .slice (some ⟨b, off + half l.length, none⟩) (l.length - half l.length) (l.length - half l.length)]) ∧
   Sl w (.slice (some ⟨b, off, none⟩) (half l.length) (half l.length)) (ss (l.take (half l.length))) ∧ Sl w (.slice (some ⟨b, off + half l.length, none⟩) (l.length - half l.length) (l.length - half l.length)) (ss (l.drop (half l.length))) ∧ Below w.heap.size w w' := by
 obtain ⟨b, off, cap, rfl, hcap, s1, s2⟩ := slHalves h (half l.length) (half_pos h2) (half_ok h2).2.1
 have q0 := half_impl w l.length h2 h3
 have hp := half_pos h2
 have hk := (half_ok h2).2.1
 have HS : Hid (Sl w (.slice (some ⟨b, off, none⟩) (half l.length) (half l.length)) (ss (l.take (half l.length))) ∧ Sl w (.slice (some ⟨b, off + half l.length, none⟩) (l.length - half l.length) (l.length - half l.length)) (ss (l.drop (half l.length)))) := ⟨s1, s2⟩
 clear s1 s2 h
 obtain ⟨k, hkk⟩ : ∃ k, half l.length = k := ⟨_, rfl⟩
 rw [hkk] at q0 hp hk HS ⊢
 clear hkk
 have v1 : (k : Int) ≤ (l.length : Int) := by omega
 have v2 : (k : Int) ≤ (cap : Int) := by omega
 have v3 : (l.length : Int) ≤ (cap : Int) := by omega
 have vnf : ¬ l.length = k := by omega
 go_enter Tryz.func50, Tryz.ntmps50
 go_wp2_with fail
 refine q0.mono ?_
 rintro e w1 ⟨rfl, hw1⟩
 have hw1 := hw1.symm
 subst hw1
 go_wp2_with fail
 go_quiet (fail)
 go_wp2
 go_ret2
 exact ⟨b, off, rfl, HS.out.1, HS.out.2, below_drewN (Below.refl _ _) _⟩
end Go.Proofs.YtfpaichdkddglaaGreatDoor.Tr
