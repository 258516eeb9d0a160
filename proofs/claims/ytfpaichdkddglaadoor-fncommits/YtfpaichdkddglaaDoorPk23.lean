/- Texts in one: KpB. -/
import Derived.Test.YtfpaichdkddglaaDoorPk7
import Derived.Test.YtfpaichdkddglaaDoorPk2
/- Chapter 12, the landed code: bytes joined by copy. -/
namespace Go.Proofs.YtfpaichdkddglaaDoor.Sr
open Go.RowKit Go.Proofs.YtfpaichdkddglaaDoor.Mem Go.Proofs.YtfpaichdkddglaaDoor.Laws Go.Proofs.YtfpaichdkddglaaDoor.Bytes
set_option linter.unusedVariables false
set_option linter.unusedSimpArgs false

/-- how many bytes the first k parts have -/
def acc (ps : List (List Int)) (k : Nat) : Nat := (ps.take k).flatten.length
theorem acc_zero (ps : List (List Int)) : acc ps 0 = 0 := by simp [acc]
theorem acc_step {ps : List (List Int)} {k : Nat} {p : List Int} (h : ps[k]? = some p) : acc ps (k + 1) = acc ps k + p.length := by
  unfold acc
  rw [List.take_add_one, h]
  simp
theorem acc_all {ps : List (List Int)} {k : Nat} (h : ps.length ≤ k) : acc ps k = ps.flatten.length := by
  unfold acc
  rw [List.take_of_length_le h]
theorem acc_le (ps : List (List Int)) (k : Nat) : acc ps k ≤ ps.flatten.length := by
  unfold acc
  conv => rhs; rw [← List.take_append_drop k ps, List.flatten_append, List.length_append]
  omega
theorem flat_step {ps : List (List Int)} {k : Nat} {p : List Int} (h : ps[k]? = some p) : (ps.take (k + 1)).flatten = (ps.take k).flatten ++ p := by
  rw [List.take_add_one, h]
  simp
theorem splice_take {L : List Value} {off : Nat} {cs : List Value} (h : off + cs.length ≤ L.length) : (splice L off cs).take (off + cs.length) = L.take off ++ cs := by
  unfold splice
  have h1 : (L.take off).length = off := by rw [List.length_take]; omega
  rw [← List.append_assoc, List.take_append_of_le_length (by rw [List.length_append, h1]; omega), List.take_of_length_le (by rw [List.length_append, h1]; omega)]

set_option maxRecDepth 1000000 in
set_option maxHeartbeats 2000000 in
theorem joined_impl (w : World) (vp : Value) (vs : List Value) (ps : List (List Int)) (hp : Sl w vp vs) (hl : vs.length = ps.length) (hs : ∀ (i : Nat) (v : Value) (p : List Int), vs[i]? = some v → ps[i]? = some p → Sl w v (bs p)) (hn : ps.length ≤ 1000000) (hz : ps.flatten.length ≤ 1000000000000) :
    Calls Tryd.prog 35 #[vp] w fun e w' => ∃ v', e = .returned v' ∧ Own w' w.heap.size w'.heap.size 5 v' (bs ps.flatten) ∧ Below w.heap.size w w' := by
  obtain ⟨i0, hi, hz0, hz1, hz2⟩ := info_parts info5
  have hsz : (Tryd.prog.info? 5).map (·.size) = some 1 := by rw [hi]; simp [hz1]
  have HL : Hid (vs.length = ps.length) := hl
  have HS : Hid (∀ (i : Nat) (v : Value) (p : List Int), vs[i]? = some v → ps[i]? = some p → Sl w v (bs p)) := hs
  have HP : Hid (Sl w vp vs) := hp
  obtain ⟨ao, cap, rfl, hc, _, _⟩ := hp
  obtain ⟨n, hnn⟩ : ∃ n, vs.length = n := ⟨_, rfl⟩
  rw [hnn] at hl hc
  have HN : Hid (vs.length = n ∧ ps.length = n) := ⟨hnn, hl.symm⟩
  have hn1 : n ≤ 1000000 := by omega
  obtain ⟨N, hN⟩ : ∃ N, ps.flatten.length = N := ⟨_, rfl⟩
  have HNN : Hid (ps.flatten.length = N) := hN
  rw [hN] at hz
  have hacc : ∀ k, acc ps k ≤ N := fun k => by rw [← hN]; exact acc_le ps k
  rw [hnn] at HP ⊢
  clear hl hs hnn hN
  have part : ∀ k, k < n → ∀ W, Below w.heap.size w W → ∃ b off v p, ao = some ⟨b, off, none⟩ ∧ ps[k]? = some p ∧ W.cell? ⟨b, off + k, none⟩ = some v ∧ Sl W v (bs p) := by
    intro k hk W hW
    obtain ⟨p, hpk⟩ : ∃ p, ps[k]? = some p := ⟨ps[k]'(by rw [HN.out.2]; exact hk), by simp⟩
    obtain ⟨v, hvk⟩ : ∃ v, vs[k]? = some v := ⟨vs[k]'(by rw [HN.out.1]; exact hk), by simp⟩
    obtain ⟨ao', c', he, _, _, hr⟩ := HP.out.later hW
    rw [HN.out.1] at he hr
    simp only [Value.slice.injEq] at he
    obtain ⟨rfl, _, rfl⟩ := he
    obtain ⟨b, off, he, hcc⟩ := hr (by omega)
    exact ⟨b, off, v, p, he, hpk, by rw [hcc k hk]; exact hvk, (HS.out k v p hvk hpk).later hW⟩
  have PART : Hid (∀ k, k < n → ∀ W, Below w.heap.size w W → ∃ b off v p, ao = some ⟨b, off, none⟩ ∧ ps[k]? = some p ∧ W.cell? ⟨b, off + k, none⟩ = some v ∧ Sl W v (bs p)) := part
  clear part
  go_enter Tryd.func35, Tryd.ntmps35
  go_wp2
  go_loopw [3, 12] (fun s i wr => ∃ k a : Nat, i = .int .i64 (k : Int) ∧ s = .int .i64 (a : Int) ∧ Hid (a = acc ps k) ∧ a ≤ N ∧ k ≤ n ∧ w = wr) (fun _ i _ => n - (intOf i).toNat)
  case atStart => exact ⟨0, 0, rfl, rfl, (acc_zero ps).symm, Nat.zero_le _, Nat.zero_le _, rfl⟩
  case round =>
    obtain ⟨k, a, rfl, rfl, HA, haN, hk, rfl⟩ := hrel
    by_cases hlt : k < n
    · obtain ⟨b, off, v, p, rfl, hpk, hcell, hsl⟩ := PART.out k hlt w (Below.refl _ _)
      obtain ⟨ao1, cap1, rfl, hc1, _, _⟩ := hsl
      rw [bs_len] at hcell hc1
      have hlt' : (k : Int) < (n : Int) := by omega
      have hst : Hid (a + p.length = acc ps (k + 1)) := by show _ = _; rw [acc_step hpk, ← HA.out]
      have hle := hacc (k + 1)
      have hle2 : a + p.length ≤ N := by rw [hst.out]; exact hle
      have hw1 : IntKind.i64.wrap ((a : Int) + (p.length : Int)) = (a : Int) + (p.length : Int) := by rw [IntKind.wrap_i64]; omega
      clear hpk hle
      go_wp2
      go_roundw
      case rel => exact ⟨k + 1, a + p.length, by go_num, by go_num, hst, hle2, by omega, trivial⟩
      case measure => simp [intOf]; omega
    · have hlt' : ¬ (k : Int) < (n : Int) := by omega
      have hkn : k = n := by omega
      have haN2 : a = N := by rw [HA.out, hkn, ← HNN.out]; exact acc_all (by rw [HN.out.2]; exact Nat.le_refl _)
      subst haN2
      clear hlt hkn
      go_wp2_with (first | (at_make; refine wpList_make_full _ rfl _ _ 22 rfl w.heap.size 5 i0 (.int .u8 0) 1 Tryd.underlying22 hi hz0 hz1 _ _ _ _ a rfl rfl rfl rfl (by rw [hz2]; omega) (by unfold maxLen; omega) (Nat.le_refl _) ?_))
      intro w1 hown hgrow
      have hbel : Below w.heap.size w w1 := (Below.refl _ _).grown hgrow (Nat.le_refl _) (by simp)
      obtain ⟨L, hown'⟩ : ∃ L, w1.ownsRow w.heap.size 5 1 (.slice (some ⟨w.heap.size, 0, none⟩) a a) a L := ⟨_, hown⟩
      have hblk : w1.heap[w.heap.size]? = some (.cells L.toArray 5 (0, 0)) := full_block hown'
      have hLn : L.length = a := by have := hown'.1; omega
      clear hown hown' hgrow
      go_wp2
      go_loopw [7, 25] (fun s i wr => ∃ (k t : Nat) (M : List Value), i = .int .i64 (k : Int) ∧ s = .int .i64 (t : Int) ∧ Hid (t = acc ps k) ∧ t ≤ a ∧ k ≤ n ∧ Hid (wr.heap[w.heap.size]? = some (.cells M.toArray 5 (0, 0))) ∧ Hid (M.length = a) ∧ Hid (M.take t = bs (ps.take k).flatten) ∧ Hid (Below w.heap.size w wr)) (fun _ i _ => n - (intOf i).toNat)
      case atStart => exact ⟨0, 0, L, rfl, rfl, (acc_zero ps).symm, Nat.zero_le _, Nat.zero_le _, hblk, hLn, by show _ = _; simp [bs], hbel⟩
      case round =>
        obtain ⟨k, t, M, rfl, rfl, HT, hta, hk, HM, HML, HMT, HB⟩ := hrel
        by_cases hlt : k < n
        · obtain ⟨b, off, v, p, rfl, hpk, hcell, hsl⟩ := PART.out k hlt wr HB.out
          have HSL := hsl
          obtain ⟨ao1, cap1, rfl, hc1, _, hr1⟩ := hsl
          rw [bs_len] at hr1 hc1
          rw [bs_len] at hcell HSL
          have hlt' : (k : Int) < (n : Int) := by omega
          have hst : Hid (t + p.length = acc ps (k + 1)) := by show _ = _; rw [acc_step hpk, ← HT.out]
          have hle2 : t + p.length ≤ a := by rw [hst.out]; exact hacc (k + 1)
          have hw1 : IntKind.i64.wrap ((t : Int) + (p.length : Int)) = (t : Int) + (p.length : Int) := by rw [IntKind.wrap_i64]; omega
          have HFL : Hid ((ps.take (k + 1)).flatten = (ps.take k).flatten ++ p) := flat_step hpk
          obtain ⟨C, hC⟩ : ∃ C, C = bs p := ⟨_, rfl⟩
          have HC : Hid (C = bs p ∧ C.length = p.length) := ⟨hC, by rw [hC, bs_len]⟩
          have HO : Hid (∀ u ∈ C, u.oneCell' = true) := by show ∀ u ∈ C, u.oneCell' = true; rw [hC]; exact bs_one _
          have HSR : Hid (0 < C.length → ∃ ad, ao1 = some ad ∧ ∀ j u, C[j]? = some u → wr.cell? (ad.add j) = some u) := by
            intro hpos
            rw [HC.out.2] at hpos
            obtain ⟨b', off', rfl, hcell'⟩ := hr1 hpos
            refine ⟨_, rfl, fun j u hj => ?_⟩
            rw [Addr.add_lit, hcell' j (by have := (List.getElem?_eq_some_iff.1 hj).1; rw [HC.out.2] at this; exact this), ← HC.out.1]
            exact hj
          have hta' : (t : Int) ≤ (a : Int) := by omega
          have hpa : Hid (C.length = Nat.min p.length (a - t)) := by show C.length = min p.length (a - t); rw [HC.out.2]; omega
          clear hpk HSL hr1 hC
          have hfit : t + C.length ≤ M.length := by rw [HC.out.2, HML.out]; omega
          have HF : Hid (t + C.length ≤ M.length) := hfit
          clear hfit
          by_cases hat : a = t
          · subst hat
            have hmin : Hid (C.length = Nat.min p.length 0) := by show C.length = min p.length 0; rw [HC.out.2]; omega
            have hpos : Hid (∀ (dp : Option Addr), 0 < C.length → dp = some ⟨w.heap.size, a, none⟩ ∧ ∃ ad, ao1 = some ad ∧ ∀ j u, C[j]? = some u → wr.cell? (ad.add j) = some u) := fun dp h0 => by rw [HC.out.2] at h0; omega
            go_wp2_with (refine wpList_copy_splice rfl (.tmp 32) (.tmp 33) 22 22 rfl 5 Tryd.underlying22 hsz _ _ _ _ _ _ rfl rfl w.heap.size a M 5 HM.out C hmin.out (hpos.out _) HF.out HO.out w.heap.size w HB.out (Nat.le_refl _) ?_)
            intro w2 hg2 hb2
            have hcl : (C.length : Int) = (p.length : Int) := by rw [HC.out.2]
            simp only [HC.out.2]
            go_wp2
            go_roundw
            case rel => exact ⟨k + 1, a + p.length, splice M a C, by go_num, by go_num, hst, hle2, by omega, hg2, by show _ = _; rw [length_splice _ _ _ HF.out]; exact HML.out, by show _ = _; rw [← HC.out.2, splice_take HF.out, HMT.out, HFL.out, bs_app, HC.out.1], hb2⟩
            case measure => simp [intOf]; omega
          · go_wp2_with (refine wpList_copy_splice rfl (.tmp 32) (.tmp 33) 22 22 rfl 5 Tryd.underlying22 hsz _ _ _ _ _ _ rfl rfl w.heap.size t M 5 HM.out C hpa.out (fun h0 => ⟨rfl, HSR.out h0⟩) HF.out HO.out w.heap.size w HB.out (Nat.le_refl _) ?_)
            intro w2 hg2 hb2
            have hcl : (C.length : Int) = (p.length : Int) := by rw [HC.out.2]
            simp only [HC.out.2]
            go_wp2
            go_roundw
            case rel => exact ⟨k + 1, t + p.length, splice M t C, by go_num, by go_num, hst, hle2, by omega, hg2, by show _ = _; rw [length_splice _ _ _ HF.out]; exact HML.out, by show _ = _; rw [← HC.out.2, splice_take HF.out, HMT.out, HFL.out, bs_app, HC.out.1], hb2⟩
            case measure => simp [intOf]; omega
        · have hlt' : ¬ (k : Int) < (n : Int) := by omega
          have hkn : k = n := by omega
          have hta2 : t = a := by rw [HT.out, hkn]; exact (acc_all (by rw [HN.out.2]; exact Nat.le_refl _)).trans HNN.out
          have hfin : M = bs ps.flatten := by
            have h9 := HMT.out
            rw [hta2, hkn, List.take_of_length_le (by rw [HML.out]; exact Nat.le_refl _), List.take_of_length_le (by rw [HN.out.2]; exact Nat.le_refl _)] at h9
            exact h9
          have HF2 : Hid (wr.heap[w.heap.size]? = some (.cells (bs ps.flatten).toArray 5 (0, 0))) := by show _ = _; rw [← hfin]; exact HM.out
          clear hfin hta2 hkn
          go_wp2
          go_ret
          refine ⟨_, rfl, ?_, HB.out⟩
          exact Own.of (full_own HF2.out (Nat.le_refl _) (by rw [bs_len]; exact HNN.out) (by unfold maxLen; omega))

end Go.Proofs.YtfpaichdkddglaaDoor.Sr
