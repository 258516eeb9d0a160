/- Chapter 3, the landed code: lists of parts compared; which of two versions is less. -/
import Derived.Test.YtbpgdagmffbagabImpG
import Derived.Deep.RegionHeld3
namespace Go.Proofs.Ytbpgdagmffbagab.Ver
open Go.RowKit Go.Proofs.Ytbpgdagmffbagab.Mem Go.Proofs.Ytbpgdagmffbagab.Laws Go.Proofs.Ytbpgdagmffbagab.Bytes Go.Proofs.Ytbpgdagmffbagab.Sha
set_option linter.unusedVariables false
set_option linter.unusedSimpArgs false

theorem drop_str {T : List ByteArray} {k : Nat} {t : ByteArray} (h : T[k]? = some t) : T.drop k = t :: T.drop (k + 1) := by
  obtain ⟨hk, rfl⟩ := List.getElem?_eq_some_iff.1 h
  rw [List.drop_eq_getElem_cons hk]

set_option maxRecDepth 1000000 in
set_option maxHeartbeats 1000000 in
theorem cmpf_impl (w : World) (v1 v2 : Value) (T1 T2 : List ByteArray) (h1 : Sl w v1 (ss T1)) (h2 : Sl w v2 (ss T2)) (l1 : T1.length ≤ 1000000000001) (l2 : T2.length ≤ 1000000000001)
    (z1 : ∀ t ∈ T1, t.size ≤ 1000000000000) (z2 : ∀ t ∈ T2, t.size ≤ 1000000000000) :
    Calls Try.prog 38 #[v1, v2, .func (.func 39) #[] #[]] w fun e w' => e = .returned (.int .i64 (cmpL T1 T2)) ∧ Below w.heap.size w w' := by
  obtain ⟨ao1, cap1, rfl, hc1, hn1, hr1⟩ := h1
  obtain ⟨ao2, cap2, rfl, hc2, hn2, hr2⟩ := h2
  rw [ss_len] at hc1 hr1 hc2 hr2
  rw [ss_len, ss_len]
  have HR1 : Hid (0 < T1.length → ∃ b off, ao1 = some ⟨b, off, none⟩ ∧ ∀ j, j < T1.length → w.cell? ⟨b, off + j, none⟩ = (ss T1)[j]?) := hr1
  have HR2 : Hid (0 < T2.length → ∃ b off, ao2 = some ⟨b, off, none⟩ ∧ ∀ j, j < T2.length → w.cell? ⟨b, off + j, none⟩ = (ss T2)[j]?) := hr2
  have HZ1 : Hid (∀ t ∈ T1, t.size ≤ 1000000000000) := z1
  have HZ2 : Hid (∀ t ∈ T2, t.size ≤ 1000000000000) := z2
  clear hr1 hn1 hr2 hn2 z1 z2
  go_enter Try.func38, Try.ntmps38
  go_wp2
  go_loopw [13] (fun i wr => ∃ k : Nat, k ≤ T1.length ∧ k ≤ T2.length ∧ i = .int .i64 (k : Int) ∧ Hid (cmpL T1 T2 = cmpL (T1.drop k) (T2.drop k)) ∧ Below w.heap.size w wr) (fun i _ => T1.length - (intOf i).toNat)
  case atStart => exact ⟨0, Nat.zero_le _, Nat.zero_le _, rfl, rfl, Below.refl _ _⟩
  case round =>
    obtain ⟨k, hk, hk2, rfl, HA, hb⟩ := hrel
    have hsz := hb.size
    by_cases hlt : k < T1.length
    · obtain ⟨b1, off1, rfl, hcell1⟩ := HR1.out (by omega)
      obtain ⟨t, ht⟩ : ∃ x, T1[k]? = some x := ⟨T1[k], by simp [hlt]⟩
      have hc0 : w.cell? ⟨b1, off1 + k, none⟩ = some (.string t) := by rw [hcell1 k hlt, ss_get, ht]; rfl
      have hcell : wr.cell? ⟨b1, off1 + k, none⟩ = some (.string t) := by rw [hb.cell (World.block_lt_of_cell? w _ hc0)]; exact hc0
      have hd := drop_str ht
      have htz := HZ1.out t (List.mem_of_getElem? ht)
      clear hcell1 hc0 ht HR1
      by_cases hlt2 : k < T2.length
      · obtain ⟨b2, off2, rfl, hcell2⟩ := HR2.out (by omega)
        obtain ⟨u, hu⟩ : ∃ x, T2[k]? = some x := ⟨T2[k], by simp [hlt2]⟩
        have hc0 : w.cell? ⟨b2, off2 + k, none⟩ = some (.string u) := by rw [hcell2 k hlt2, ss_get, hu]; rfl
        have hcell' : wr.cell? ⟨b2, off2 + k, none⟩ = some (.string u) := by rw [hb.cell (World.block_lt_of_cell? w _ hc0)]; exact hc0
        have hd2 := drop_str hu
        have huz := HZ2.out u (List.mem_of_getElem? hu)
        have HO : Hid (cmpL T1 T2 = if cmpPart t u = 0 then cmpL (T1.drop (k + 1)) (T2.drop (k + 1)) else cmpPart t u) := by show _ = _; rw [HA.out, hd, hd2, cmpL]
        have q := cpart_impl wr t u htz huz
        obtain ⟨x, hx⟩ : ∃ x, cmpPart t u = x := ⟨_, rfl⟩
        rw [hx] at q HO
        clear hx hcell2 hc0 hu hd hd2 HR2
        by_cases h0 : x = 0
        · have d0 : (x != 0) = false := by simpa using h0
          have HN : Hid (cmpL T1 T2 = cmpL (T1.drop (k + 1)) (T2.drop (k + 1))) := by show _ = _; rw [HO.out, if_pos h0]
          clear h0
          go_wp2_with (go_at_call 39; refine q.mono ?_; rintro e w' ⟨rfl, bq⟩)
          go_roundw
          case rel => exact ⟨k + 1, by omega, by omega, by go_num, HN, hb.trans (bq.mono hsz)⟩
          case measure => simp [intOf]; omega
        · have d0 : (x != 0) = true := by simpa using h0
          have HN : Hid (cmpL T1 T2 = x) := by show _ = _; rw [HO.out, if_neg h0]
          clear h0
          go_wp2_with (go_at_call 39; refine q.mono ?_; rintro e w' ⟨rfl, bq⟩)
          go_ret
          exact ⟨by rw [HN.out]; rfl, hb.trans (bq.mono hsz)⟩
      · have HN : Hid (cmpL T1 T2 = 1) := by
          show _ = _
          rw [HA.out, hd, List.drop_eq_nil_of_le (show T2.length ≤ k by omega), cmpL]
        clear hd
        go_wp2
        go_ret
        exact ⟨by rw [HN.out]; rfl, hb⟩
    · have hke : k = T1.length := by omega
      by_cases hlt2 : T1.length < T2.length
      · have HN : Hid (cmpL T1 T2 = -1) := by
          show _ = _
          obtain ⟨u, hu⟩ : ∃ x, T2[k]? = some x := ⟨T2[k], by simp [hke, hlt2]⟩
          rw [HA.out, List.drop_eq_nil_of_le (show T1.length ≤ k by omega), drop_str hu, cmpL]
        clear hke
        go_wp2
        go_ret
        exact ⟨by rw [HN.out]; rfl, hb⟩
      · have HN : Hid (cmpL T1 T2 = 0) := by
          show _ = _
          rw [HA.out, List.drop_eq_nil_of_le (show T1.length ≤ k by omega), List.drop_eq_nil_of_le (show T2.length ≤ k by omega), cmpL]
        clear hke
        go_wp2
        go_ret
        exact ⟨by rw [HN.out]; rfl, hb⟩

set_option maxRecDepth 1000000 in
set_option maxHeartbeats 1000000 in
theorem cpre_impl (w : World) (a b : ByteArray) (ha : a.size ≤ 1000000000000) (hb : b.size ≤ 1000000000000) :
    Calls Try.prog 29 #[.string a, .string b] w fun e w' => e = .returned (.int .i64 (cmpPre a b)) ∧ Below w.heap.size w w' := by
  obtain ⟨x, hx⟩ : ∃ x, eqT a b = x := ⟨_, rfl⟩
  have hx' : (a.toList == b.toList) = x := hx
  have HC : Hid (cmpPre a b = if x = true then 0 else if a.size = 0 then 1 else if b.size = 0 then -1 else cmpL (splitT 46 a) (splitT 46 b)) := by
    show _ = _
    unfold cmpPre
    rw [hx]
  clear hx
  have ea := toList_empty a
  have eb := toList_empty b
  cases x
  · by_cases h0 : a.size = 0
    · have HN : Hid (cmpPre a b = 1) := by show _ = _; rw [HC.out]; simp [h0]
      rw [decide_eq_true h0] at ea
      clear h0 eb
      go_enter Try.func29, Try.ntmps29
      go_wp2
      go_ret
      exact ⟨by rw [HN.out]; rfl, Below.refl _ _⟩
    · rw [decide_eq_false h0] at ea
      by_cases h1 : b.size = 0
      · have HN : Hid (cmpPre a b = -1) := by show _ = _; rw [HC.out]; simp [h0, h1]
        rw [decide_eq_true h1] at eb
        clear h0 h1
        go_enter Try.func29, Try.ntmps29
        go_wp2
        go_ret
        exact ⟨by rw [HN.out]; rfl, Below.refl _ _⟩
      · have HN : Hid (cmpPre a b = cmpL (splitT 46 a) (splitT 46 b)) := by show _ = _; rw [HC.out]; simp [h0, h1]
        rw [decide_eq_false h1] at eb
        clear h0 h1 HC
        go_enter Try.func29, Try.ntmps29
        go_wp2_with fail
        refine (parts_impl w a 46 (by omega) (by omega) ha).mono ?_
        rintro e w1 ⟨v1, rfl, o1, b1⟩
        go_wp2_with fail
        refine (parts_impl w1 b 46 (by omega) (by omega) hb).mono ?_
        rintro e w2 ⟨v2, rfl, o2, b2⟩
        have hb2 : Below w.heap.size w w2 := b1.trans (b2.mono b1.size)
        have s1 : Sl w2 v1 (ss (splitT 46 a)) := o1.sl.later b2
        have s2 : Sl w2 v2 (ss (splitT 46 b)) := o2.sl
        have l1 := splitT_len 46 a
        have l2 := splitT_len 46 b
        have q := cmpf_impl w2 v1 v2 _ _ s1 s2 (by omega) (by omega) (fun t ht => Nat.le_trans (splitT_size 46 a t ht) ha) (fun t ht => Nat.le_trans (splitT_size 46 b t ht) hb)
        obtain ⟨r, hr⟩ : ∃ r, cmpL (splitT 46 a) (splitT 46 b) = r := ⟨_, rfl⟩
        rw [hr] at q
        have HR : Hid (cmpL (splitT 46 a) (splitT 46 b) = r) := hr
        clear hr s1 s2 l1 l2 o1 o2
        go_wp2_with (go_at_call 38; refine q.mono ?_; rintro e w3 ⟨rfl, b3⟩)
        go_ret
        exact ⟨by rw [HN.out, HR.out]; rfl, hb2.trans (b3.mono hb2.size)⟩
  · have HN : Hid (cmpPre a b = 0) := by show _ = _; rw [HC.out]; rfl
    clear ea eb
    go_enter Try.func29, Try.ntmps29
    go_wp2
    go_ret
    exact ⟨by rw [HN.out]; rfl, Below.refl _ _⟩

end Go.Proofs.Ytbpgdagmffbagab.Ver
