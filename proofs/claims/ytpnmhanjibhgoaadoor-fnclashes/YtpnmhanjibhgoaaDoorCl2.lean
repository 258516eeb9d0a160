/- Chapter 8: lists that are the same; what a leaf's and a node's hash is the digest of (the specification's side). -/
import Derived.Test.YtpnmhanjibhgoaaDoorCl1
import Derived.Test.YtpnmhanjibhgoaaDoorTr8
import Derived.BigQuiet
namespace Go.Proofs.YtpnmhanjibhgoaaDoor.Cl
open Go.RowKit Go.Proofs.YtpnmhanjibhgoaaDoor.Mem Go.Proofs.YtpnmhanjibhgoaaDoor.Laws Go.Proofs.YtpnmhanjibhgoaaDoor.Bytes Go.Proofs.YtpnmhanjibhgoaaDoor.Sha Go.Proofs.YtpnmhanjibhgoaaDoor.Tr
set_option linter.unusedVariables false
set_option linter.unusedSimpArgs false

theorem beq_yes {a b : ByteArray} (h : a = b) : (a.toList == b.toList) = true := by rw [h]; simp
theorem beq_no {a b : ByteArray} (h : a ≠ b) : (a.toList == b.toList) = false := by
  rw [beq_eq_false_iff_ne, ByteArray.toList_eq, ByteArray.toList_eq]
  intro e
  apply h
  cases a
  cases b
  simp only at e
  rw [Array.ext' e]
theorem eq6_iff (a b : ByteArray) : eq6 a b = true ↔ a = b := by
  unfold eq6
  refine ⟨fun h => ?_, beq_yes⟩
  by_cases e : a = b
  · exact e
  · rw [beq_no e] at h; cases h

theorem Sl.form {w : World} {v : Value} {cs : List Value} (h : Sl w v cs) : ∃ (ao : Option Addr) (cap : Nat), v = .slice ao cs.length cap ∧ cs.length ≤ cap := by
  obtain ⟨ao, cap, rfl, hc, _⟩ := h
  exact ⟨ao, cap, rfl, hc⟩

set_option maxRecDepth 1000000 in
set_option maxHeartbeats 1000000 in
/-- whether two lists are the same -/
theorem same_spec (w : World) (v1 v2 : Value) (l m : List ByteArray) (t : Bool) (ht : t = true ↔ l = m) (h1 : Sl w v1 (ss l)) (h2 : Sl w v2 (ss m)) (hl : l.length ≤ 1000000000000) (hm : m.length ≤ 1000000000000) :
    Calls Tryd.prog 34 #[v1, v2] w fun e w' => e = .returned (.bool t) ∧ (∀ B, Below B w w') ∧ w'.heap.size = w.heap.size := by
  obtain ⟨ao, cap, rfl, hc1, _, hr1⟩ := h1
  obtain ⟨bo, cap2, rfl, hc2, _, hr2⟩ := h2
  rw [ss_len] at hr1 hr2 hc1 hc2
  rw [ss_len, ss_len]
  have HT : Hid (t = true ↔ l = m) := ht
  clear ht
  by_cases hlm : l.length = m.length
  · have dn : ((l.length : Int) == (m.length : Int)) = true := by rw [beq_iff_eq]; omega
    have HLM : Hid (l.length = m.length) := hlm
    have hlm1 : l.length ≤ m.length := by omega
    have hlm2 : m.length ≤ l.length := by omega
    clear hlm
    go_enter Tryd.func34, Tryd.ntmps34
    go_wp2
    go_loopw [5] (fun i wr => ∃ k n : Nat, k ≤ l.length ∧ i = .int .i64 k ∧ Hid (l.take k = m.take k) ∧ wr = w.drewN n) (fun i _ => l.length - (intOf i).toNat)
    case atStart => exact ⟨0, 0, Nat.zero_le _, rfl, rfl, rfl⟩
    case round =>
      obtain ⟨k, n, hk, rfl, HK, rfl⟩ := hrel
      by_cases hlt : k < l.length
      · obtain ⟨b, off, s, rfl, hx0, hcell⟩ := Sl.strAt hr1 rfl hlt
        obtain ⟨b2, off2, s2, rfl, hy0, hcell2⟩ := Sl.strAt hr2 rfl (show k < m.length by omega)
        have hlt' : (k : Int) < (m.length : Int) := by omega
        by_cases hst : s = s2
        · subst hst
          have HN : Hid (l.take (k + 1) = m.take (k + 1)) := by
            show _ = _
            rw [List.take_add_one, List.take_add_one, HK.out, hx0, hy0]
          clear hx0 hy0 hr1 hr2 HK
          go_wp2
          go_quiet (fail)
          go_wp2
          go_roundw
          case rel => exact ⟨k + 1, n + nq, by omega, by go_num, HN, rfl⟩
          case measure => simp [intOf]; omega
        · have HF : Hid (t = false) := by
            show _ = _
            cases t with
            | false => rfl
            | true =>
              have e := HT.out.1 rfl
              subst e
              rw [hx0] at hy0
              exact absurd (Option.some.inj hy0) hst
          have dq := beq_no hst
          clear hx0 hy0 hr1 hr2 HK hst
          go_wp2
          go_quiet (fail)
          go_wp2
          go_ret
          exact ⟨by rw [HF.out]; rfl, fun B => below_drewN (below_drewN (Below.refl _ _) _) _, rfl⟩
      · have HF : Hid (t = true) := by
          show _ = _
          refine HT.out.2 ?_
          have h := HK.out
          rwa [List.take_of_length_le (by omega), List.take_of_length_le (by omega)] at h
        clear hr1 hr2 HK
        go_wp2
        go_ret
        exact ⟨by rw [HF.out]; rfl, fun B => below_drewN (Below.refl _ _) n, rfl⟩
  · have HF : Hid (t = false) := by
      show _ = _
      cases t with
      | false => rfl
      | true => exact absurd (congrArg List.length (HT.out.1 rfl)) hlm
    have dn : ((l.length : Int) == (m.length : Int)) = false := by rw [beq_eq_false_iff_ne]; omega
    clear hr1 hr2 hlm
    go_enter Tryd.func34, Tryd.ntmps34
    go_wp2
    go_ret
    exact ⟨by rw [HF.out]; rfl, fun B => Below.refl _ _, rfl⟩

set_option maxRecDepth 1000000 in
set_option maxHeartbeats 1000000 in
/-- whether two lists are the same -/
theorem same_law (w : World) (v1 v2 : Value) (l m : List ByteArray) (t : Bool) (ht : t = true ↔ l = m) (h1 : Sl w v1 (ss l)) (h2 : Sl w v2 (ss m)) (hl : l.length ≤ 1000000000000) (hm : m.length ≤ 1000000000000) :
    Calls Tryd.prog 9 #[v1, v2] w fun e w' => e = .returned (.bool t) ∧ (∀ B, Below B w w') ∧ w'.heap.size = w.heap.size := by
  obtain ⟨ao, cap, rfl, hc1, _, hr1⟩ := h1
  obtain ⟨bo, cap2, rfl, hc2, _, hr2⟩ := h2
  rw [ss_len] at hr1 hr2 hc1 hc2
  rw [ss_len, ss_len]
  have HT : Hid (t = true ↔ l = m) := ht
  clear ht
  by_cases hlm : l.length = m.length
  · have dn : ((l.length : Int) == (m.length : Int)) = true := by rw [beq_iff_eq]; omega
    have HLM : Hid (l.length = m.length) := hlm
    have hlm1 : l.length ≤ m.length := by omega
    have hlm2 : m.length ≤ l.length := by omega
    clear hlm
    go_enter Tryd.func9, Tryd.ntmps9
    go_wp2
    go_loopw [5] (fun i wr => ∃ k n : Nat, k ≤ l.length ∧ i = .int .i64 k ∧ Hid (l.take k = m.take k) ∧ wr = w.drewN n) (fun i _ => l.length - (intOf i).toNat)
    case atStart => exact ⟨0, 0, Nat.zero_le _, rfl, rfl, rfl⟩
    case round =>
      obtain ⟨k, n, hk, rfl, HK, rfl⟩ := hrel
      by_cases hlt : k < l.length
      · obtain ⟨b, off, s, rfl, hx0, hcell⟩ := Sl.strAt hr1 rfl hlt
        obtain ⟨b2, off2, s2, rfl, hy0, hcell2⟩ := Sl.strAt hr2 rfl (show k < m.length by omega)
        have hlt' : (k : Int) < (m.length : Int) := by omega
        by_cases hst : s = s2
        · subst hst
          have HN : Hid (l.take (k + 1) = m.take (k + 1)) := by
            show _ = _
            rw [List.take_add_one, List.take_add_one, HK.out, hx0, hy0]
          clear hx0 hy0 hr1 hr2 HK
          go_wp2
          go_quiet (fail)
          go_wp2
          go_roundw
          case rel => exact ⟨k + 1, n + nq, by omega, by go_num, HN, rfl⟩
          case measure => simp [intOf]; omega
        · have HF : Hid (t = false) := by
            show _ = _
            cases t with
            | false => rfl
            | true =>
              have e := HT.out.1 rfl
              subst e
              rw [hx0] at hy0
              exact absurd (Option.some.inj hy0) hst
          have dq := beq_no hst
          clear hx0 hy0 hr1 hr2 HK hst
          go_wp2
          go_quiet (fail)
          go_wp2
          go_ret
          exact ⟨by rw [HF.out]; rfl, fun B => below_drewN (below_drewN (Below.refl _ _) _) _, rfl⟩
      · have HF : Hid (t = true) := by
          show _ = _
          refine HT.out.2 ?_
          have h := HK.out
          rwa [List.take_of_length_le (by omega), List.take_of_length_le (by omega)] at h
        clear hr1 hr2 HK
        go_wp2
        go_ret
        exact ⟨by rw [HF.out]; rfl, fun B => below_drewN (Below.refl _ _) n, rfl⟩
  · have HF : Hid (t = false) := by
      show _ = _
      cases t with
      | false => rfl
      | true => exact absurd (congrArg List.length (HT.out.1 rfl)) hlm
    have dn : ((l.length : Int) == (m.length : Int)) = false := by rw [beq_eq_false_iff_ne]; omega
    clear hr1 hr2 hlm
    go_enter Tryd.func9, Tryd.ntmps9
    go_wp2
    go_ret
    exact ⟨by rw [HF.out]; rfl, fun B => Below.refl _ _, rfl⟩

set_option maxRecDepth 1000000 in
set_option maxHeartbeats 1000000 in
/-- whether two lists are the same -/
theorem same_impl (w : World) (v1 v2 : Value) (l m : List ByteArray) (t : Bool) (ht : t = true ↔ l = m) (h1 : Sl w v1 (ss l)) (h2 : Sl w v2 (ss m)) (hl : l.length ≤ 1000000000000) (hm : m.length ≤ 1000000000000) :
    Calls Tryd.prog 22 #[v1, v2] w fun e w' => e = .returned (.bool t) ∧ (∀ B, Below B w w') ∧ w'.heap.size = w.heap.size := by
  obtain ⟨ao, cap, rfl, hc1, _, hr1⟩ := h1
  obtain ⟨bo, cap2, rfl, hc2, _, hr2⟩ := h2
  rw [ss_len] at hr1 hr2 hc1 hc2
  rw [ss_len, ss_len]
  have HT : Hid (t = true ↔ l = m) := ht
  clear ht
  by_cases hlm : l.length = m.length
  · have dn : ((l.length : Int) == (m.length : Int)) = true := by rw [beq_iff_eq]; omega
    have HLM : Hid (l.length = m.length) := hlm
    have hlm1 : l.length ≤ m.length := by omega
    have hlm2 : m.length ≤ l.length := by omega
    clear hlm
    go_enter Tryd.func22, Tryd.ntmps22
    go_wp2
    go_loopw [13] (fun i wr => ∃ k n : Nat, k ≤ l.length ∧ i = .int .i64 k ∧ Hid (l.take k = m.take k) ∧ wr = w.drewN n) (fun i _ => l.length - (intOf i).toNat)
    case atStart => exact ⟨0, 0, Nat.zero_le _, rfl, rfl, rfl⟩
    case round =>
      obtain ⟨k, n, hk, rfl, HK, rfl⟩ := hrel
      by_cases hlt : k < l.length
      · obtain ⟨b, off, s, rfl, hx0, hcell⟩ := Sl.strAt hr1 rfl hlt
        obtain ⟨b2, off2, s2, rfl, hy0, hcell2⟩ := Sl.strAt hr2 rfl (show k < m.length by omega)
        have hlt' : (k : Int) < (m.length : Int) := by omega
        by_cases hst : s = s2
        · subst hst
          have HN : Hid (l.take (k + 1) = m.take (k + 1)) := by
            show _ = _
            rw [List.take_add_one, List.take_add_one, HK.out, hx0, hy0]
          clear hx0 hy0 hr1 hr2 HK
          go_wp2
          go_quiet (fail)
          go_wp2
          go_roundw
          case rel => exact ⟨k + 1, n + nq, by omega, by go_num, HN, rfl⟩
          case measure => simp [intOf]; omega
        · have HF : Hid (t = false) := by
            show _ = _
            cases t with
            | false => rfl
            | true =>
              have e := HT.out.1 rfl
              subst e
              rw [hx0] at hy0
              exact absurd (Option.some.inj hy0) hst
          have dq := beq_no hst
          clear hx0 hy0 hr1 hr2 HK hst
          go_wp2
          go_quiet (fail)
          go_wp2
          go_ret
          exact ⟨by rw [HF.out]; rfl, fun B => below_drewN (below_drewN (Below.refl _ _) _) _, rfl⟩
      · have HF : Hid (t = true) := by
          show _ = _
          refine HT.out.2 ?_
          have h := HK.out
          rwa [List.take_of_length_le (by omega), List.take_of_length_le (by omega)] at h
        clear hr1 hr2 HK
        go_wp2
        go_ret
        exact ⟨by rw [HF.out]; rfl, fun B => below_drewN (Below.refl _ _) n, rfl⟩
  · have HF : Hid (t = false) := by
      show _ = _
      cases t with
      | false => rfl
      | true => exact absurd (congrArg List.length (HT.out.1 rfl)) hlm
    have dn : ((l.length : Int) == (m.length : Int)) = false := by rw [beq_eq_false_iff_ne]; omega
    clear hr1 hr2 hlm
    go_enter Tryd.func22, Tryd.ntmps22
    go_wp2
    go_ret
    exact ⟨by rw [HF.out]; rfl, fun B => Below.refl _ _, rfl⟩

set_option maxRecDepth 1000000 in
set_option maxHeartbeats 1000000 in
theorem leafT_spec (w : World) (s : ByteArray) (hs : s.size ≤ 100000000000) : Calls Tryd.prog 50 #[.string s] w fun e w' => e = .returned (.string (leafT s)) ∧ Below w.heap.size w w' := by
  obtain ⟨i0, hi, hz0, hz1, hz2⟩ := info_parts info5
  have ho := oneB w w.heap.size 0 (Nat.le_refl _)
  have hB : Below w.heap.size w (w.alloc (.cells #[.int .u8 0] 5)) := (Below.refl _ _).alloc (Nat.le_refl _) _
  have hsz : w.heap.size ≤ (w.alloc (.cells #[.int .u8 0] 5)).heap.size := by simp
  have c1 : ([0] : List Int).length + s.size ≤ 140737488355328 := by simp; omega
  go_enter Tryd.func50, Tryd.ntmps50
  go_wp2_with (at_builtin; go_must (refine wpl_str _ rfl (.tmp 3) (.tmp 4) 22 9 rfl 5 i0 Tryd.underlying22 Tryd.underlying9 hi hz0 hz1 hz2 w.heap.size _ _ rfl ho s rfl c1 hsz ?_))
  intro v2 w2 ho2 hb2
  have hcv := conv_sl (zs := [0] ++ sb s) ho2.sl (byt0 s)
  have HB2 : Hid (Below w.heap.size w w2) := hB.trans hb2
  have HL : Hid (leafT s = Plain.txt ([0] ++ sb s)) := rfl
  obtain ⟨D, hD⟩ : ∃ D, Plain.txt ([0] ++ sb s) = D := ⟨_, rfl⟩
  rw [hD] at hcv HL
  clear ho ho2 hb2 hB hD
  go_wp2
  go_ret
  exact ⟨by rw [HL.out]; rfl, HB2.out⟩

set_option maxRecDepth 1000000 in
set_option maxHeartbeats 1000000 in
theorem nodeT_spec (w : World) (a b : ByteArray) (ha : a.size ≤ 100000000000) (hb : b.size ≤ 100000000000) : Calls Tryd.prog 52 #[.string a, .string b] w fun e w' => e = .returned (.string (nodeT a b)) ∧ Below w.heap.size w w' := by
  obtain ⟨i0, hi, hz0, hz1, hz2⟩ := info_parts info5
  have ho := oneB w w.heap.size 1 (Nat.le_refl _)
  have hB : Below w.heap.size w (w.alloc (.cells #[.int .u8 1] 5)) := (Below.refl _ _).alloc (Nat.le_refl _) _
  have hsz : w.heap.size ≤ (w.alloc (.cells #[.int .u8 1] 5)).heap.size := by simp
  have c1 : ([1] : List Int).length + a.size ≤ 140737488355328 := by simp; omega
  have c2 : ([1] ++ sb a : List Int).length + b.size ≤ 140737488355328 := by rw [List.length_append, sb_len]; simp; omega
  go_enter Tryd.func52, Tryd.ntmps52
  go_wp2_with (at_builtin; go_must (refine wpl_str _ rfl (.tmp 5) (.tmp 6) 22 9 rfl 5 i0 Tryd.underlying22 Tryd.underlying9 hi hz0 hz1 hz2 w.heap.size _ _ rfl ho a rfl c1 hsz ?_))
  intro v2 w2 ho2 hb2
  have hsz2 := Nat.le_trans hsz hb2.size
  go_wp2_with (at_builtin; go_must (refine wpl_str _ rfl (.tmp 7) (.tmp 8) 22 9 rfl 5 i0 Tryd.underlying22 Tryd.underlying9 hi hz0 hz1 hz2 w.heap.size _ _ rfl ho2 b rfl c2 hsz2 ?_))
  intro v3 w3 ho3 hb3
  have HL : Hid (nodeT a b = Plain.txt ([1] ++ sb a ++ sb b)) := rfl
  have hcv := conv_sl (zs := [1] ++ sb a ++ sb b) ho3.sl (by rw [List.append_assoc]; exact byt1 a b)
  have HB3 : Hid (Below w.heap.size w w3) := (hB.trans hb2).trans hb3
  obtain ⟨D, hD⟩ : ∃ D, Plain.txt ([1] ++ sb a ++ sb b) = D := ⟨_, rfl⟩
  rw [hD] at hcv HL
  clear ho2 ho3 hb2 hb3 hB hD
  go_wp2
  go_ret
  exact ⟨by rw [HL.out]; rfl, HB3.out⟩

end Go.Proofs.YtpnmhanjibhgoaaDoor.Cl
