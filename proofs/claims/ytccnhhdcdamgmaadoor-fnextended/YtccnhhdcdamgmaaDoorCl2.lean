/- Chapter 8: lists that are the same; what a leaf's and a node's hash is the digest of (the specification's side). -/
import Derived.Test.YtccnhhdcdamgmaaDoorCl1
import Derived.Test.YtccnhhdcdamgmaaDoorTr8
import Derived.BigQuiet
namespace Go.Proofs.YtccnhhdcdamgmaaDoor.Cl
open Go.RowKit Go.Proofs.YtccnhhdcdamgmaaDoor.Mem Go.Proofs.YtccnhhdcdamgmaaDoor.Laws Go.Proofs.YtccnhhdcdamgmaaDoor.Bytes Go.Proofs.YtccnhhdcdamgmaaDoor.Sha Go.Proofs.YtccnhhdcdamgmaaDoor.Tr
set_option linter.unusedVariables false
set_option linter.unusedSimpArgs false

theorem beq_yes {a b : ByteArray} (h : a = b) : (a.toList == b.toList) = true := by rw [h]; simp
theorem beq_no {a b : ByteArray} (h : a ≠ b) : (a.toList == b.toList) = false := by
  rw [beq_eq_false_iff_ne, ByteArray.toList_eq, ByteArray.toList_eq]
  intro e
  apply h
  cases a
  cases b
  simp only at e
  rw [Array.ext' e]
theorem eq6_iff (a b : ByteArray) : eq6 a b = true ↔ a = b := by
  unfold eq6
  refine ⟨fun h => ?_, beq_yes⟩
  by_cases e : a = b
  · exact e
  · rw [beq_no e] at h; cases h

theorem Sl.form {w : World} {v : Value} {cs : List Value} (h : Sl w v cs) : ∃ (ao : Option Addr) (cap : Nat), v = .slice ao cs.length cap ∧ cs.length ≤ cap := by
  obtain ⟨ao, cap, rfl, hc, _⟩ := h
  exact ⟨ao, cap, rfl, hc⟩

set_option maxRecDepth 1000000 in
set_option maxHeartbeats 1000000 in
/-- whether two lists are the same -/
theorem same_law (w : World) (v1 v2 : Value) (l m : List ByteArray) (t : Bool) (ht : t = true ↔ l = m) (h1 : Sl w v1 (ss l)) (h2 : Sl w v2 (ss m)) (hl : l.length ≤ 1000000000000) (hm : m.length ≤ 1000000000000) :
    Calls Tryd.prog 13 #[v1, v2] w fun e w' => e = .returned (.bool t) ∧ (∀ B, Below B w w') ∧ w'.heap.size = w.heap.size := by
  obtain ⟨ao, cap, rfl, hc1, _, hr1⟩ := h1
  obtain ⟨bo, cap2, rfl, hc2, _, hr2⟩ := h2
  rw [ss_len] at hr1 hr2 hc1 hc2
  rw [ss_len, ss_len]
  have HT : Hid (t = true ↔ l = m) := ht
  clear ht
  by_cases hlm : l.length = m.length
  · have dn : ((l.length : Int) == (m.length : Int)) = true := by rw [beq_iff_eq]; omega
    have HLM : Hid (l.length = m.length) := hlm
    have hlm1 : l.length ≤ m.length := by omega
    have hlm2 : m.length ≤ l.length := by omega
    clear hlm
    go_enter Tryd.func13, Tryd.ntmps13
    go_wp2
    go_loopw [5] (fun i wr => ∃ k n : Nat, k ≤ l.length ∧ i = .int .i64 k ∧ Hid (l.take k = m.take k) ∧ wr = w.drewN n) (fun i _ => l.length - (intOf i).toNat)
    case atStart => exact ⟨0, 0, Nat.zero_le _, rfl, rfl, rfl⟩
    case round =>
      obtain ⟨k, n, hk, rfl, HK, rfl⟩ := hrel
      by_cases hlt : k < l.length
      · obtain ⟨b, off, s, rfl, hx0, hcell⟩ := Sl.strAt hr1 rfl hlt
        obtain ⟨b2, off2, s2, rfl, hy0, hcell2⟩ := Sl.strAt hr2 rfl (show k < m.length by omega)
        have hlt' : (k : Int) < (m.length : Int) := by omega
        by_cases hst : s = s2
        · subst hst
          have HN : Hid (l.take (k + 1) = m.take (k + 1)) := by
            show _ = _
            rw [List.take_add_one, List.take_add_one, HK.out, hx0, hy0]
          clear hx0 hy0 hr1 hr2 HK
          go_wp2
          go_quiet (fail)
          go_wp2
          go_roundw
          case rel => exact ⟨k + 1, n + nq, by omega, by go_num, HN, rfl⟩
          case measure => simp [intOf]; omega
        · have HF : Hid (t = false) := by
            show _ = _
            cases t with
            | false => rfl
            | true =>
              have e := HT.out.1 rfl
              subst e
              rw [hx0] at hy0
              exact absurd (Option.some.inj hy0) hst
          have dq := beq_no hst
          clear hx0 hy0 hr1 hr2 HK hst
          go_wp2
          go_quiet (fail)
          go_wp2
          go_ret
          exact ⟨by rw [HF.out]; rfl, fun B => below_drewN (below_drewN (Below.refl _ _) _) _, rfl⟩
      · have HF : Hid (t = true) := by
          show _ = _
          refine HT.out.2 ?_
          have h := HK.out
          rwa [List.take_of_length_le (by omega), List.take_of_length_le (by omega)] at h
        clear hr1 hr2 HK
        go_wp2
        go_ret
        exact ⟨by rw [HF.out]; rfl, fun B => below_drewN (Below.refl _ _) n, rfl⟩
  · have HF : Hid (t = false) := by
      show _ = _
      cases t with
      | false => rfl
      | true => exact absurd (congrArg List.length (HT.out.1 rfl)) hlm
    have dn : ((l.length : Int) == (m.length : Int)) = false := by rw [beq_eq_false_iff_ne]; omega
    clear hr1 hr2 hlm
    go_enter Tryd.func13, Tryd.ntmps13
    go_wp2
    go_ret
    exact ⟨by rw [HF.out]; rfl, fun B => Below.refl _ _, rfl⟩

end Go.Proofs.YtccnhhdcdamgmaaDoor.Cl
