/- Texts in one: Sr4, Cl2, SrQ. -/
import Derived.Test.YtfpaichdkddglaaGreatDoorPm14
import Derived.Test.YtfpaichdkddglaaGreatDoorPm8
import Derived.Test.YtfpaichdkddglaaGreatDoorPm15
import Derived.Test.YtfpaichdkddglaaGreatDoorPm10
import Derived.Test.YtfpaichdkddglaaGreatDoorPm9
import Derived.Test.YtfpaichdkddglaaGreatDoorPm5
import Derived.BigQuiet
import Derived.Deep.DeepCutAuto
import Derived.Deep.RegionHeld3
namespace Go.Proofs.YtfpaichdkddglaaGreatDoor.Sr
open Go.RowKit Go.Proofs.YtfpaichdkddglaaGreatDoor.Mem Go.Proofs.YtfpaichdkddglaaGreatDoor.He Go.Proofs.YtfpaichdkddglaaGreatDoor.Lg
set_option linter.unusedVariables false
theorem open_short (t : List Hd) {xs : List Int} (h : xs.length ≤ 60000) : (openS t xs).1.l = (openF xs.length t xs 0 new12 0).1.l ∧ (openS t xs).1.h = (openF xs.length t xs 0 new12 0).1.h := by
 unfold openS
 rw [List.take_of_length_le h]
 exact ⟨rfl, rfl⟩
end Go.Proofs.YtfpaichdkddglaaGreatDoor.Sr
namespace Go.Proofs.YtfpaichdkddglaaGreatDoor.Cl
open Go.RowKit Go.Proofs.YtfpaichdkddglaaGreatDoor.Mem Go.Proofs.YtfpaichdkddglaaGreatDoor.Laws Go.Proofs.YtfpaichdkddglaaGreatDoor.Bytes Go.Proofs.YtfpaichdkddglaaGreatDoor.Sha Go.Proofs.YtfpaichdkddglaaGreatDoor.Tr
set_option linter.unusedVariables false
set_option linter.unusedSimpArgs false
theorem beq_no {a b : ByteArray} (h : a ≠ b) : (a.toList == b.toList) = false := by
 rw [beq_eq_false_iff_ne, ByteArray.toList_eq, ByteArray.toList_eq]
 intro e
 apply h
 cases a
 cases b
 simp only at e
 rw [Array.ext' e]
theorem Sl.form {w : World} {v : Value} {cs : List Value} (h : Sl w v cs) : ∃ (ao : Option Addr) (cap : Nat), v = .slice ao cs.length cap ∧ cs.length ≤ cap := by
 obtain ⟨ao, cap, rfl, hc, _⟩ := h
 exact ⟨ao, cap, rfl, hc⟩
set_option maxRecDepth 1000000 in
set_option maxHeartbeats 1000000 in
theorem same_spec (w : World) (v1 v2 : Value) (l m : List ByteArray) (t : Bool) (ht : t = true ↔ l = m) (h1 : Sl w v1 (ss l)) (h2 : Sl w v2 (ss m)) (hl : l.length ≤ 1000000000000) (hm : m.length ≤ 1000000000000) :
  Calls Tryz.prog 70 #[v1, v2] w fun e w' => e = .returned (.bool t) ∧ (∀ B, Below B w w') ∧ w'.heap.size = w.heap.size := by
 obtain ⟨ao, cap, rfl, hc1, _, hr1⟩ := h1
 obtain ⟨bo, cap2, rfl, hc2, _, hr2⟩ := h2
 rw [ss_len] at hr1 hr2 hc1 hc2
 rw [ss_len, ss_len]
 have HT : Hid (t = true ↔ l = m) := ht
 clear ht
 by_cases hlm : l.length = m.length
 ·
  have dn : ((l.length : Int) == (m.length : Int)) = true := by rw [beq_iff_eq]; omega
  have HLM : Hid (l.length = m.length) := hlm
  have hlm1 : l.length ≤ m.length := by omega
  have hlm2 : m.length ≤ l.length := by omega
  clear hlm
  go_enter Tryz.func70, Tryz.ntmps70
  go_wp2
  go_loopw [5] (fun i wr => ∃ k n : Nat, k ≤ l.length ∧ i = .int .i64 k ∧ Hid (l.take k = m.take k) ∧ wr = w.drewN n) (fun i _ => l.length - (intOf i).toNat)
  case atStart => exact ⟨0, 0, Nat.zero_le _, rfl, rfl, rfl⟩
  case round =>
   obtain ⟨k, n, hk, rfl, HK, rfl⟩ := hrel
   by_cases hlt : k < l.length
   ·
    obtain ⟨b, off, s, rfl, hx0, hcell⟩ := Sl.strAt hr1 rfl hlt
    obtain ⟨b2, off2, s2, rfl, hy0, hcell2⟩ := Sl.strAt hr2 rfl (show k < m.length by omega)
    have hlt' : (k : Int) < (m.length : Int) := by omega
    by_cases hst : s = s2
    ·
     subst hst
     have HN : Hid (l.take (k + 1) = m.take (k + 1)) := by
      show _ = _
      rw [List.take_add_one, List.take_add_one, HK.out, hx0, hy0]
     clear hx0 hy0 hr1 hr2 HK
     go_wp2
     go_quiet (fail)
     go_wp2
     go_roundw
     case rel => exact ⟨k + 1, n + nq, by omega, by go_num, HN, rfl⟩
     case measure => simp [intOf]; omega
    ·
     have HF : Hid (t = false) := by
      show _ = _
      cases t with
      | false => rfl
      | true =>
       have e := HT.out.1 rfl
       subst e
       rw [hx0] at hy0
       exact absurd (Option.some.inj hy0) hst
     have dq := beq_no hst
     clear hx0 hy0 hr1 hr2 HK hst
     go_wp2
     go_quiet (fail)
     go_wp2
     go_ret
     exact ⟨by rw [HF.out]; rfl, fun B => below_drewN (below_drewN (Below.refl _ _) _) _, rfl⟩
   ·
    have HF : Hid (t = true) := by
     show _ = _
     refine HT.out.2 ?_
     have h := HK.out
     rwa [List.take_of_length_le (by omega), List.take_of_length_le (by omega)] at h
    clear hr1 hr2 HK
    go_wp2
    go_ret
    exact ⟨by rw [HF.out]; rfl, fun B => below_drewN (Below.refl _ _) n, rfl⟩
 ·
  have HF : Hid (t = false) := by
   show _ = _
   cases t with
   | false => rfl
   | true => exact absurd (congrArg List.length (HT.out.1 rfl)) hlm
  have dn : ((l.length : Int) == (m.length : Int)) = false := by rw [beq_eq_false_iff_ne]; omega
  clear hr1 hr2 hlm
  go_enter Tryz.func70, Tryz.ntmps70
  go_wp2
  go_ret
  exact ⟨by rw [HF.out]; rfl, fun B => Below.refl _ _, rfl⟩
set_option maxRecDepth 1000000 in
set_option maxHeartbeats 1000000 in
theorem same_impl (w : World) (v1 v2 : Value) (l m : List ByteArray) (t : Bool) (ht : t = true ↔ l = m) (h1 : Sl w v1 (ss l)) (h2 : Sl w v2 (ss m)) (hl : l.length ≤ 1000000000000) (hm : m.length ≤ 1000000000000) :
  Calls Tryz.prog 59 #[v1, v2] w fun e w' => e = .returned (.bool t) ∧ (∀ B, Below B w w') ∧ w'.heap.size = w.heap.size := by
 obtain ⟨ao, cap, rfl, hc1, _, hr1⟩ := h1
 obtain ⟨bo, cap2, rfl, hc2, _, hr2⟩ := h2
 rw [ss_len] at hr1 hr2 hc1 hc2
 rw [ss_len, ss_len]
 have HT : Hid (t = true ↔ l = m) := ht
 clear ht
 by_cases hlm : l.length = m.length
 ·
  have dn : ((l.length : Int) == (m.length : Int)) = true := by rw [beq_iff_eq]; omega
  have HLM : Hid (l.length = m.length) := hlm
  have hlm1 : l.length ≤ m.length := by omega
  have hlm2 : m.length ≤ l.length := by omega
  clear hlm
  go_enter Tryz.func59, Tryz.ntmps59
  go_wp2
  go_loopw [13] (fun i wr => ∃ k n : Nat, k ≤ l.length ∧ i = .int .i64 k ∧ Hid (l.take k = m.take k) ∧ wr = w.drewN n) (fun i _ => l.length - (intOf i).toNat)
  case atStart => exact ⟨0, 0, Nat.zero_le _, rfl, rfl, rfl⟩
  case round =>
   obtain ⟨k, n, hk, rfl, HK, rfl⟩ := hrel
   by_cases hlt : k < l.length
   ·
    obtain ⟨b, off, s, rfl, hx0, hcell⟩ := Sl.strAt hr1 rfl hlt
    obtain ⟨b2, off2, s2, rfl, hy0, hcell2⟩ := Sl.strAt hr2 rfl (show k < m.length by omega)
    have hlt' : (k : Int) < (m.length : Int) := by omega
    by_cases hst : s = s2
    ·
     subst hst
     have HN : Hid (l.take (k + 1) = m.take (k + 1)) := by
      show _ = _
      rw [List.take_add_one, List.take_add_one, HK.out, hx0, hy0]
     clear hx0 hy0 hr1 hr2 HK
     go_wp2
     go_quiet (fail)
     go_wp2
     go_roundw
     case rel => exact ⟨k + 1, n + nq, by omega, by go_num, HN, rfl⟩
     case measure => simp [intOf]; omega
    ·
     have HF : Hid (t = false) := by
      show _ = _
      cases t with
      | false => rfl
      | true =>
       have e := HT.out.1 rfl
       subst e
       rw [hx0] at hy0
       exact absurd (Option.some.inj hy0) hst
     have dq := beq_no hst
     clear hx0 hy0 hr1 hr2 HK hst
     go_wp2
     go_quiet (fail)
     go_wp2
     go_ret
     exact ⟨by rw [HF.out]; rfl, fun B => below_drewN (below_drewN (Below.refl _ _) _) _, rfl⟩
   ·
    have HF : Hid (t = true) := by
     show _ = _
     refine HT.out.2 ?_
     have h := HK.out
     rwa [List.take_of_length_le (by omega), List.take_of_length_le (by omega)] at h
    clear hr1 hr2 HK
    go_wp2
    go_ret
    exact ⟨by rw [HF.out]; rfl, fun B => below_drewN (Below.refl _ _) n, rfl⟩
 ·
  have HF : Hid (t = false) := by
   show _ = _
   cases t with
   | false => rfl
   | true => exact absurd (congrArg List.length (HT.out.1 rfl)) hlm
  have dn : ((l.length : Int) == (m.length : Int)) = false := by rw [beq_eq_false_iff_ne]; omega
  clear hr1 hr2 hlm
  go_enter Tryz.func59, Tryz.ntmps59
  go_wp2
  go_ret
  exact ⟨by rw [HF.out]; rfl, fun B => Below.refl _ _, rfl⟩
end Go.Proofs.YtfpaichdkddglaaGreatDoor.Cl
namespace Go.Proofs.YtfpaichdkddglaaGreatDoor.Sr
open Go.RowKit Go.Proofs.YtfpaichdkddglaaGreatDoor.Mem Go.Proofs.YtfpaichdkddglaaGreatDoor.Laws Go.Proofs.YtfpaichdkddglaaGreatDoor.Bytes Go.Proofs.YtfpaichdkddglaaGreatDoor.Sha Go.Proofs.YtfpaichdkddglaaGreatDoor.Tr Go.Proofs.YtfpaichdkddglaaGreatDoor.Draw Go.Proofs.YtfpaichdkddglaaGreatDoor.He Go.Proofs.YtfpaichdkddglaaGreatDoor.Lg
set_option linter.unusedVariables false
set_option linter.unusedSimpArgs false
theorem stay {P : Prop} {n : Nat} {w w' : World} (h : P) (b : Below n w w') : P := h
set_option maxRecDepth 1000000 in
set_option maxHeartbeats 2000000 in
theorem begins_true (w : World) (v1 v2 : Value) (l m : List ByteArray) (h1 : Sl w v1 (ss l)) (h2 : Sl w v2 (ss m)) (hp : l <+: m) (hm : m.length ≤ 1000000) :
  Calls Tryz.prog 19 #[v1, v2] w fun e w' => e = .returned (.bool true) ∧ Below w.heap.size w w' := by
 obtain ⟨x, rfl⟩ := hp
 have hlm : l.length ≤ (l ++ x).length := by rw [List.length_append]; omega
 have H1 := h1
 have H2 := h2
 obtain ⟨ao1, cap1, rfl, hc1⟩ := h1.form
 obtain ⟨ao2, cap2, rfl, hc2⟩ := h2.form
 simp only [ss_len] at *
 have hf : Sl w (.slice ao2 l.length cap2) (ss l) := by
  have h9 := Sl.front H2 l.length (by rw [ss_len]; exact hlm)
  have e9 : (ss (l ++ x)).take l.length = ss l := by unfold ss; rw [← List.map_take, List.take_left]
  rw [e9] at h9
  exact h9
 have q := Draw.same_true w _ _ l H1 hf (by omega)
 have d2 : (l.length : Int) ≤ (cap2 : Int) := by omega
 obtain ⟨N, hN⟩ : ∃ N, (l ++ x).length = N := ⟨_, rfl⟩
 rw [hN] at hlm ⊢
 have d1 : (l.length : Int) ≤ (N : Int) := by omega
 have d3 : decide ((l.length : Int) ≤ (N : Int)) = true := by simp [d1]
 clear H1 H2 hf h1 h2 hN hc2 hm
 go_enter Tryz.func19, Tryz.ntmps19
 go_wp2_with fail
 refine q.mono ?_
 rintro e w1 ⟨rfl, hb, _⟩
 go_wp2
 go_ret
 exact ⟨rfl, hb _⟩
end Go.Proofs.YtfpaichdkddglaaGreatDoor.Sr
