/- Texts in one: KpB, KpK. -/
import Derived.Test.YtfpaichdkddglabPk4
import Derived.Test.YtfpaichdkddglabPk12
/- Chapter 12, the landed code: bytes joined by copy. -/
namespace Go.Proofs.Ytfpaichdkddglab.Sr
open Go.RowKit Go.Proofs.Ytfpaichdkddglab.Mem Go.Proofs.Ytfpaichdkddglab.Laws Go.Proofs.Ytfpaichdkddglab.Bytes
set_option linter.unusedVariables false
set_option linter.unusedSimpArgs false

/-- how many bytes the first k parts have -/
def acc (ps : List (List Int)) (k : Nat) : Nat := (ps.take k).flatten.length
theorem acc_zero (ps : List (List Int)) : acc ps 0 = 0 := by simp [acc]
theorem acc_step {ps : List (List Int)} {k : Nat} {p : List Int} (h : ps[k]? = some p) : acc ps (k + 1) = acc ps k + p.length := by
  unfold acc
  rw [List.take_add_one, h]
  simp
theorem acc_all {ps : List (List Int)} {k : Nat} (h : ps.length ≤ k) : acc ps k = ps.flatten.length := by
  unfold acc
  rw [List.take_of_length_le h]
theorem acc_le (ps : List (List Int)) (k : Nat) : acc ps k ≤ ps.flatten.length := by
  unfold acc
  conv => rhs; rw [← List.take_append_drop k ps, List.flatten_append, List.length_append]
  omega
theorem flat_step {ps : List (List Int)} {k : Nat} {p : List Int} (h : ps[k]? = some p) : (ps.take (k + 1)).flatten = (ps.take k).flatten ++ p := by
  rw [List.take_add_one, h]
  simp
theorem splice_take {L : List Value} {off : Nat} {cs : List Value} (h : off + cs.length ≤ L.length) : (splice L off cs).take (off + cs.length) = L.take off ++ cs := by
  unfold splice
  have h1 : (L.take off).length = off := by rw [List.length_take]; omega
  rw [← List.append_assoc, List.take_append_of_le_length (by rw [List.length_append, h1]; omega), List.take_of_length_le (by rw [List.length_append, h1]; omega)]

set_option maxRecDepth 1000000 in
set_option maxHeartbeats 2000000 in
theorem joined_impl (w : World) (vp : Value) (vs : List Value) (ps : List (List Int)) (hp : Sl w vp vs) (hl : vs.length = ps.length) (hs : ∀ (i : Nat) (v : Value) (p : List Int), vs[i]? = some v → ps[i]? = some p → Sl w v (bs p)) (hn : ps.length ≤ 1000000) (hz : ps.flatten.length ≤ 1000000000000) :
    Calls Try.prog 17 #[vp] w fun e w' => ∃ v', e = .returned v' ∧ Own w' w.heap.size w'.heap.size 5 v' (bs ps.flatten) ∧ Below w.heap.size w w' := by
  obtain ⟨i0, hi, hz0, hz1, hz2⟩ := info_parts info5
  have hsz : (Try.prog.info? 5).map (·.size) = some 1 := by rw [hi]; simp [hz1]
  have HL : Hid (vs.length = ps.length) := hl
  have HS : Hid (∀ (i : Nat) (v : Value) (p : List Int), vs[i]? = some v → ps[i]? = some p → Sl w v (bs p)) := hs
  have HP : Hid (Sl w vp vs) := hp
  obtain ⟨ao, cap, rfl, hc, _, _⟩ := hp
  obtain ⟨n, hnn⟩ : ∃ n, vs.length = n := ⟨_, rfl⟩
  rw [hnn] at hl hc
  have HN : Hid (vs.length = n ∧ ps.length = n) := ⟨hnn, hl.symm⟩
  have hn1 : n ≤ 1000000 := by omega
  obtain ⟨N, hN⟩ : ∃ N, ps.flatten.length = N := ⟨_, rfl⟩
  have HNN : Hid (ps.flatten.length = N) := hN
  rw [hN] at hz
  have hacc : ∀ k, acc ps k ≤ N := fun k => by rw [← hN]; exact acc_le ps k
  rw [hnn] at HP ⊢
  clear hl hs hnn hN
  have part : ∀ k, k < n → ∀ W, Below w.heap.size w W → ∃ b off v p, ao = some ⟨b, off, none⟩ ∧ ps[k]? = some p ∧ W.cell? ⟨b, off + k, none⟩ = some v ∧ Sl W v (bs p) := by
    intro k hk W hW
    obtain ⟨p, hpk⟩ : ∃ p, ps[k]? = some p := ⟨ps[k]'(by rw [HN.out.2]; exact hk), by simp⟩
    obtain ⟨v, hvk⟩ : ∃ v, vs[k]? = some v := ⟨vs[k]'(by rw [HN.out.1]; exact hk), by simp⟩
    obtain ⟨ao', c', he, _, _, hr⟩ := HP.out.later hW
    rw [HN.out.1] at he hr
    simp only [Value.slice.injEq] at he
    obtain ⟨rfl, _, rfl⟩ := he
    obtain ⟨b, off, he, hcc⟩ := hr (by omega)
    exact ⟨b, off, v, p, he, hpk, by rw [hcc k hk]; exact hvk, (HS.out k v p hvk hpk).later hW⟩
  have PART : Hid (∀ k, k < n → ∀ W, Below w.heap.size w W → ∃ b off v p, ao = some ⟨b, off, none⟩ ∧ ps[k]? = some p ∧ W.cell? ⟨b, off + k, none⟩ = some v ∧ Sl W v (bs p)) := part
  clear part
  go_enter Try.func17, Try.ntmps17
  go_wp2
  go_loopw [3, 12] (fun s i wr => ∃ k a : Nat, i = .int .i64 (k : Int) ∧ s = .int .i64 (a : Int) ∧ Hid (a = acc ps k) ∧ a ≤ N ∧ k ≤ n ∧ w = wr) (fun _ i _ => n - (intOf i).toNat)
  case atStart => exact ⟨0, 0, rfl, rfl, (acc_zero ps).symm, Nat.zero_le _, Nat.zero_le _, rfl⟩
  case round =>
    obtain ⟨k, a, rfl, rfl, HA, haN, hk, rfl⟩ := hrel
    by_cases hlt : k < n
    · obtain ⟨b, off, v, p, rfl, hpk, hcell, hsl⟩ := PART.out k hlt w (Below.refl _ _)
      obtain ⟨ao1, cap1, rfl, hc1, _, _⟩ := hsl
      rw [bs_len] at hcell hc1
      have hlt' : (k : Int) < (n : Int) := by omega
      have hst : Hid (a + p.length = acc ps (k + 1)) := by show _ = _; rw [acc_step hpk, ← HA.out]
      have hle := hacc (k + 1)
      have hle2 : a + p.length ≤ N := by rw [hst.out]; exact hle
      have hw1 : IntKind.i64.wrap ((a : Int) + (p.length : Int)) = (a : Int) + (p.length : Int) := by rw [IntKind.wrap_i64]; omega
      clear hpk hle
      go_wp2
      go_roundw
      case rel => exact ⟨k + 1, a + p.length, by go_num, by go_num, hst, hle2, by omega, trivial⟩
      case measure => simp [intOf]; omega
    · have hlt' : ¬ (k : Int) < (n : Int) := by omega
      have hkn : k = n := by omega
      have haN2 : a = N := by rw [HA.out, hkn, ← HNN.out]; exact acc_all (by rw [HN.out.2]; exact Nat.le_refl _)
      subst haN2
      clear hlt hkn
      go_wp2_with (first | (at_make; refine wpList_make_full _ rfl _ _ 27 rfl w.heap.size 5 i0 (.int .u8 0) 1 Try.underlying27 hi hz0 hz1 _ _ _ _ a rfl rfl rfl rfl (by rw [hz2]; omega) (by unfold maxLen; omega) (Nat.le_refl _) ?_))
      intro w1 hown hgrow
      have hbel : Below w.heap.size w w1 := (Below.refl _ _).grown hgrow (Nat.le_refl _) (by simp)
      obtain ⟨L, hown'⟩ : ∃ L, w1.ownsRow w.heap.size 5 1 (.slice (some ⟨w.heap.size, 0, none⟩) a a) a L := ⟨_, hown⟩
      have hblk : w1.heap[w.heap.size]? = some (.cells L.toArray 5 (0, 0)) := full_block hown'
      have hLn : L.length = a := by have := hown'.1; omega
      clear hown hown' hgrow
      go_wp2
      go_loopw [7, 25] (fun s i wr => ∃ (k t : Nat) (M : List Value), i = .int .i64 (k : Int) ∧ s = .int .i64 (t : Int) ∧ Hid (t = acc ps k) ∧ t ≤ a ∧ k ≤ n ∧ Hid (wr.heap[w.heap.size]? = some (.cells M.toArray 5 (0, 0))) ∧ Hid (M.length = a) ∧ Hid (M.take t = bs (ps.take k).flatten) ∧ Hid (Below w.heap.size w wr)) (fun _ i _ => n - (intOf i).toNat)
      case atStart => exact ⟨0, 0, L, rfl, rfl, (acc_zero ps).symm, Nat.zero_le _, Nat.zero_le _, hblk, hLn, by show _ = _; simp [bs], hbel⟩
      case round =>
        obtain ⟨k, t, M, rfl, rfl, HT, hta, hk, HM, HML, HMT, HB⟩ := hrel
        by_cases hlt : k < n
        · obtain ⟨b, off, v, p, rfl, hpk, hcell, hsl⟩ := PART.out k hlt wr HB.out
          have HSL := hsl
          obtain ⟨ao1, cap1, rfl, hc1, _, hr1⟩ := hsl
          rw [bs_len] at hr1 hc1
          rw [bs_len] at hcell HSL
          have hlt' : (k : Int) < (n : Int) := by omega
          have hst : Hid (t + p.length = acc ps (k + 1)) := by show _ = _; rw [acc_step hpk, ← HT.out]
          have hle2 : t + p.length ≤ a := by rw [hst.out]; exact hacc (k + 1)
          have hw1 : IntKind.i64.wrap ((t : Int) + (p.length : Int)) = (t : Int) + (p.length : Int) := by rw [IntKind.wrap_i64]; omega
          have HFL : Hid ((ps.take (k + 1)).flatten = (ps.take k).flatten ++ p) := flat_step hpk
          obtain ⟨C, hC⟩ : ∃ C, C = bs p := ⟨_, rfl⟩
          have HC : Hid (C = bs p ∧ C.length = p.length) := ⟨hC, by rw [hC, bs_len]⟩
          have HO : Hid (∀ u ∈ C, u.oneCell' = true) := by show ∀ u ∈ C, u.oneCell' = true; rw [hC]; exact bs_one _
          have HSR : Hid (0 < C.length → ∃ ad, ao1 = some ad ∧ ∀ j u, C[j]? = some u → wr.cell? (ad.add j) = some u) := by
            intro hpos
            rw [HC.out.2] at hpos
            obtain ⟨b', off', rfl, hcell'⟩ := hr1 hpos
            refine ⟨_, rfl, fun j u hj => ?_⟩
            rw [Addr.add_lit, hcell' j (by have := (List.getElem?_eq_some_iff.1 hj).1; rw [HC.out.2] at this; exact this), ← HC.out.1]
            exact hj
          have hta' : (t : Int) ≤ (a : Int) := by omega
          have hpa : Hid (C.length = Nat.min p.length (a - t)) := by show C.length = min p.length (a - t); rw [HC.out.2]; omega
          clear hpk HSL hr1 hC
          have hfit : t + C.length ≤ M.length := by rw [HC.out.2, HML.out]; omega
          have HF : Hid (t + C.length ≤ M.length) := hfit
          clear hfit
          by_cases hat : a = t
          · subst hat
            have hmin : Hid (C.length = Nat.min p.length 0) := by show C.length = min p.length 0; rw [HC.out.2]; omega
            have hpos : Hid (∀ (dp : Option Addr), 0 < C.length → dp = some ⟨w.heap.size, a, none⟩ ∧ ∃ ad, ao1 = some ad ∧ ∀ j u, C[j]? = some u → wr.cell? (ad.add j) = some u) := fun dp h0 => by rw [HC.out.2] at h0; omega
            go_wp2_with (refine wpList_copy_splice rfl (.tmp 32) (.tmp 33) 27 27 rfl 5 Try.underlying27 hsz _ _ _ _ _ _ rfl rfl w.heap.size a M 5 HM.out C hmin.out (hpos.out _) HF.out HO.out w.heap.size w HB.out (Nat.le_refl _) ?_)
            intro w2 hg2 hb2
            have hcl : (C.length : Int) = (p.length : Int) := by rw [HC.out.2]
            simp only [HC.out.2]
            go_wp2
            go_roundw
            case rel => exact ⟨k + 1, a + p.length, splice M a C, by go_num, by go_num, hst, hle2, by omega, hg2, by show _ = _; rw [length_splice _ _ _ HF.out]; exact HML.out, by show _ = _; rw [← HC.out.2, splice_take HF.out, HMT.out, HFL.out, bs_app, HC.out.1], hb2⟩
            case measure => simp [intOf]; omega
          · go_wp2_with (refine wpList_copy_splice rfl (.tmp 32) (.tmp 33) 27 27 rfl 5 Try.underlying27 hsz _ _ _ _ _ _ rfl rfl w.heap.size t M 5 HM.out C hpa.out (fun h0 => ⟨rfl, HSR.out h0⟩) HF.out HO.out w.heap.size w HB.out (Nat.le_refl _) ?_)
            intro w2 hg2 hb2
            have hcl : (C.length : Int) = (p.length : Int) := by rw [HC.out.2]
            simp only [HC.out.2]
            go_wp2
            go_roundw
            case rel => exact ⟨k + 1, t + p.length, splice M t C, by go_num, by go_num, hst, hle2, by omega, hg2, by show _ = _; rw [length_splice _ _ _ HF.out]; exact HML.out, by show _ = _; rw [← HC.out.2, splice_take HF.out, HMT.out, HFL.out, bs_app, HC.out.1], hb2⟩
            case measure => simp [intOf]; omega
        · have hlt' : ¬ (k : Int) < (n : Int) := by omega
          have hkn : k = n := by omega
          have hta2 : t = a := by rw [HT.out, hkn]; exact (acc_all (by rw [HN.out.2]; exact Nat.le_refl _)).trans HNN.out
          have hfin : M = bs ps.flatten := by
            have h9 := HMT.out
            rw [hta2, hkn, List.take_of_length_le (by rw [HML.out]; exact Nat.le_refl _), List.take_of_length_le (by rw [HN.out.2]; exact Nat.le_refl _)] at h9
            exact h9
          have HF2 : Hid (wr.heap[w.heap.size]? = some (.cells (bs ps.flatten).toArray 5 (0, 0))) := by show _ = _; rw [← hfin]; exact HM.out
          clear hfin hta2 hkn
          go_wp2
          go_ret
          refine ⟨_, rfl, ?_, HB.out⟩
          exact Own.of (full_own HF2.out (Nat.le_refl _) (by rw [bs_len]; exact HNN.out) (by unfold maxLen; omega))

end Go.Proofs.Ytfpaichdkddglab.Sr

/- Chapter 12, the landed code: what a crash leaves. -/
namespace Go.Proofs.Ytfpaichdkddglab.Sr
open Go.RowKit Go.Proofs.Ytfpaichdkddglab.Mem Go.Proofs.Ytfpaichdkddglab.Laws Go.Proofs.Ytfpaichdkddglab.Bytes Go.Proofs.Ytfpaichdkddglab.Sha Go.Proofs.Ytfpaichdkddglab.Tr Go.Proofs.Ytfpaichdkddglab.He Go.Proofs.Ytfpaichdkddglab.Lg
set_option linter.unusedVariables false
set_option linter.unusedSimpArgs false

theorem slAllocK (w : World) (cs : List Value) (t : TypeId) : Sl (w.alloc (.cells cs.toArray t)) (.slice (some ⟨w.heap.size, 0, none⟩) cs.length cs.length) cs := by
  refine ⟨_, _, rfl, Nat.le_refl _, fun h => by simp at h, fun _ => ⟨w.heap.size, 0, rfl, fun j hj => ?_⟩⟩
  rw [Nat.zero_add, cell_of_row _ w.heap.size j cs.toArray t (0, 0) (heap_alloc_new w _)]
  simp
theorem part1K {W : World} {a : Value} {p : List Int} (h : Sl W a (bs p)) : ∀ (i : Nat) (v : Value) (q : List Int), [a][i]? = some v → [p][i]? = some q → Sl W v (bs q) := by
  intro i v q h1 h2
  match i with
  | 0 => simp at h1 h2; rw [← h1, ← h2]; exact h
  | i + 1 => simp at h1

set_option maxRecDepth 1000000 in
set_option maxHeartbeats 4000000 in
theorem fall_impl (w : World) (v vb : Value) (l : List ByteArray) (h : Hd) (b : List Int) (s keep : Int) (hs : Sl w v (ss l)) (hb : Sl w vb (bs b)) (hbl : b.length ≤ 1000000000) (hs1 : -9223372036854775808 ≤ s) (hs2 : s ≤ 9223372036854775807) (hk1 : -9223372036854775808 ≤ keep) (hk2 : keep ≤ 9223372036854775807) :
    Calls Try.prog 7 #[.agg #[v, .int .i64 h.n, .string h.r, vb, .int .i64 s], .int .i64 keep] w fun e w' => ∃ v', e = .returned v' ∧ Own w' w.heap.size w'.heap.size 5 v' (bs (b.take (fallN ⟨l, h, b, s⟩ keep))) ∧ Below w.heap.size w w' := by
  have HSB : Hid (Sl w vb (bs b)) := hb
  obtain ⟨ao0, cap0, rfl, hc0⟩ := hs.form
  obtain ⟨ao1, cap1, rfl, hc1⟩ := hb.form
  simp only [ss_len, bs_len] at *
  clear hs hb
  obtain ⟨K, hK⟩ : ∃ K, fallN ⟨l, h, b, s⟩ keep = K := ⟨_, rfl⟩
  rw [hK]
  unfold fallN at hK
  simp only at hK
  have B0 : Hid (Below w.heap.size w w) := Below.refl _ _
  obtain ⟨W1, HW1, b1, y1, hS1, r_a1⟩ : ∃ X, Hid ((w.alloc (.cells #[.slice ao0 l.length cap0, .int .i64 h.n, .string h.r, .slice ao1 b.length cap1, .int .i64 s] 36)) = X) ∧ Below w.heap.size w X ∧ w.heap.size + 1 ≤ X.heap.size ∧ Hid (X.heap.size = w.heap.size + 1) ∧ Hid (X.heap[w.heap.size]? = some (.cells #[.slice ao0 l.length cap0, .int .i64 h.n, .string h.r, .slice ao1 b.length cap1, .int .i64 s] 36 (0, 0))) := ⟨_, rfl, ((Below.refl _ _).alloc (Nat.le_refl _) _), by simp, by show _ = _; simp, (by show _ = _; exact alloc_nth1_0 w _)⟩
  have z1 : w.heap.size ≤ W1.heap.size := b1.size
  have B1 : Hid (Below w.heap.size w W1) := B0.out.trans (b1.mono B0.out.size)
  have c_a1_0 : W1.cell? ⟨w.heap.size, 0, none⟩ = some (.slice ao0 l.length cap0) := row_at r_a1.out 0
  have c_a1_1 : W1.cell? ⟨w.heap.size, 1, none⟩ = some (.int .i64 h.n) := row_at r_a1.out 1
  have c_a1_2 : W1.cell? ⟨w.heap.size, 2, none⟩ = some (.string h.r) := row_at r_a1.out 2
  have c_a1_3 : W1.cell? ⟨w.heap.size, 3, none⟩ = some (.slice ao1 b.length cap1) := row_at r_a1.out 3
  have c_a1_4 : W1.cell? ⟨w.heap.size, 4, none⟩ = some (.int .i64 s) := row_at r_a1.out 4
  by_cases hs0 : s < 0
  · have hs9 : ¬ (0 : Int) < s := by omega
    by_cases hk0 : keep < 0
    · have hk9 : ¬ (0 : Int) < keep := by omega
      have hKK : K = 0 := by omega
      have HKK : Hid (K = 0) := hKK
      have hKb : 0 ≤ b.length := by omega
      have hKc : ((0 : Nat) : Int) ≤ (cap1 : Int) := by omega
      clear hKK hK
      have HSK : Hid (∀ W, Below w.heap.size w W → Sl W (.slice ao1 (0) cap1) (bs (b.take (0)))) := by
        intro W hW
        have h9 := Sl.front (HSB.out.later hW) (0) (by rw [bs_len]; omega)
        have e9 : bs (b.take (0)) = (bs b).take (0) := by { unfold bs; rw [List.map_take] }
        rw [e9]
        exact h9
      go_enter Try.func7, Try.ntmps7
      have a_a1_0 : ∀ o, (W1.alloc o).cell? ⟨w.heap.size, 0, none⟩ = some (.slice ao0 l.length cap0) := fun o => keepR c_a1_0 ((Below.refl _ _).alloc (Nat.le_refl _) o)
      have a_a1_1 : ∀ o, (W1.alloc o).cell? ⟨w.heap.size, 1, none⟩ = some (.int .i64 h.n) := fun o => keepR c_a1_1 ((Below.refl _ _).alloc (Nat.le_refl _) o)
      have a_a1_2 : ∀ o, (W1.alloc o).cell? ⟨w.heap.size, 2, none⟩ = some (.string h.r) := fun o => keepR c_a1_2 ((Below.refl _ _).alloc (Nat.le_refl _) o)
      have a_a1_3 : ∀ o, (W1.alloc o).cell? ⟨w.heap.size, 3, none⟩ = some (.slice ao1 b.length cap1) := fun o => keepR c_a1_3 ((Below.refl _ _).alloc (Nat.le_refl _) o)
      have a_a1_4 : ∀ o, (W1.alloc o).cell? ⟨w.heap.size, 4, none⟩ = some (.int .i64 s) := fun o => keepR c_a1_4 ((Below.refl _ _).alloc (Nat.le_refl _) o)
      obtain ⟨W2, HW2, b2, ff2⟩ : ∃ X, Hid ((W1.alloc (.cells #[.slice ao1 (0) cap1] 27)) = X) ∧ Below W1.heap.size W1 X ∧ Hid (Sl X (.slice (some ⟨W1.heap.size, 0, none⟩) 1 1) [.slice ao1 (0) cap1]) := ⟨_, rfl, (Below.refl _ _).alloc (Nat.le_refl _) _, slAllocK W1 [.slice ao1 (0) cap1] 27⟩
      have ff2 : Hid (Sl W2 (.slice (some ⟨w.heap.size + 1, 0, none⟩) 1 1) [.slice ao1 (0) cap1]) := by show Sl _ _ _; have h9 := ff2.out; rw [hS1.out] at h9; exact h9
      have z2 : W1.heap.size ≤ W2.heap.size := b2.size
      have B2 : Hid (Below w.heap.size w W2) := B1.out.trans (b2.mono B1.out.size)
      have r_a2 : Hid (W2.heap[w.heap.size]? = some (.cells #[.slice ao0 l.length cap0, .int .i64 h.n, .string h.r, .slice ao1 b.length cap1, .int .i64 s] 36 (0, 0))) := rowKeep r_a1.out b2
      have c_a2_0 : W2.cell? ⟨w.heap.size, 0, none⟩ = some (.slice ao0 l.length cap0) := row_at r_a2.out 0
      have c_a2_1 : W2.cell? ⟨w.heap.size, 1, none⟩ = some (.int .i64 h.n) := row_at r_a2.out 1
      have c_a2_2 : W2.cell? ⟨w.heap.size, 2, none⟩ = some (.string h.r) := row_at r_a2.out 2
      have c_a2_3 : W2.cell? ⟨w.heap.size, 3, none⟩ = some (.slice ao1 b.length cap1) := row_at r_a2.out 3
      have c_a2_4 : W2.cell? ⟨w.heap.size, 4, none⟩ = some (.int .i64 s) := row_at r_a2.out 4
      clear r_a1 c_a1_0 c_a1_1 c_a1_2 c_a1_3 c_a1_4
      have qj := joined_impl W2 _ _ [b.take (0)] ff2.out rfl (part1K (HSK.out _ B2.out)) (by simp) (by simp <;> omega)
      have e9 : [b.take (0)].flatten = b.take (0) := by simp
      rw [e9] at qj
      clear e9
      go_wp2_with fail
      rw [HW1.out, HW2.out]
      clear a_a1_0 a_a1_1 a_a1_2 a_a1_3 a_a1_4
      refine (qj).mono ?_
      rintro e W3 ⟨v_z, rfl, o_z3, b3⟩
      obtain ⟨ao_z, L_z, cap_z, rfl, hL_z, hM_z⟩ := o_z3.form
      have o_z3 : Hid (Own W3 W2.heap.size W3.heap.size 5 (.slice ao_z L_z cap_z) (bs (b.take (0)))) := o_z3
      clear hL_z hM_z
      have z3 : W2.heap.size ≤ W3.heap.size := b3.size
      have B3 : Hid (Below w.heap.size w W3) := B2.out.trans (b3.mono B2.out.size)
      have r_a3 : Hid (W3.heap[w.heap.size]? = some (.cells #[.slice ao0 l.length cap0, .int .i64 h.n, .string h.r, .slice ao1 b.length cap1, .int .i64 s] 36 (0, 0))) := rowKeep r_a2.out b3
      have c_a3_0 : W3.cell? ⟨w.heap.size, 0, none⟩ = some (.slice ao0 l.length cap0) := row_at r_a3.out 0
      have c_a3_1 : W3.cell? ⟨w.heap.size, 1, none⟩ = some (.int .i64 h.n) := row_at r_a3.out 1
      have c_a3_2 : W3.cell? ⟨w.heap.size, 2, none⟩ = some (.string h.r) := row_at r_a3.out 2
      have c_a3_3 : W3.cell? ⟨w.heap.size, 3, none⟩ = some (.slice ao1 b.length cap1) := row_at r_a3.out 3
      have c_a3_4 : W3.cell? ⟨w.heap.size, 4, none⟩ = some (.int .i64 s) := row_at r_a3.out 4
      clear r_a2 c_a2_0 c_a2_1 c_a2_2 c_a2_3 c_a2_4
      go_wp2
      go_ret
      refine ⟨_, rfl, ?_, B3.out⟩
      rw [HKK.out]
      exact Own.mono o_z3.out (by omega) (Nat.le_refl _)
    · obtain ⟨k, rfl⟩ : ∃ k : Nat, keep = (k : Int) := ⟨keep.toNat, by omega⟩
      have hk9 : ¬ (k : Int) < 0 := by omega
      have w1 : IntKind.i64.wrap ((b.length : Int) - 0) = (b.length : Int) := by rw [IntKind.wrap_i64]; omega
      have w2 : ∀ j : Nat, IntKind.i64.wrap (0 + (j : Int)) = (j : Int) ∨ 9223372036854775807 < j := fun j => by rw [IntKind.wrap_i64]; omega
      by_cases hk8 : (b.length : Int) < (k : Int)
      · have hKK : K = b.length := by omega
        have HKK : Hid (K = b.length) := hKK
        have hKb : b.length ≤ b.length := by omega
        have hKc : ((b.length : Nat) : Int) ≤ (cap1 : Int) := by omega
        clear hKK hK
        have HSK : Hid (∀ W, Below w.heap.size w W → Sl W (.slice ao1 (b.length) cap1) (bs (b.take (b.length)))) := by
          intro W hW
          have h9 := Sl.front (HSB.out.later hW) (b.length) (by rw [bs_len]; omega)
          have e9 : bs (b.take (b.length)) = (bs b).take (b.length) := by { unfold bs; rw [List.map_take] }
          rw [e9]
          exact h9
        go_enter Try.func7, Try.ntmps7
        have a_a1_0 : ∀ o, (W1.alloc o).cell? ⟨w.heap.size, 0, none⟩ = some (.slice ao0 l.length cap0) := fun o => keepR c_a1_0 ((Below.refl _ _).alloc (Nat.le_refl _) o)
        have a_a1_1 : ∀ o, (W1.alloc o).cell? ⟨w.heap.size, 1, none⟩ = some (.int .i64 h.n) := fun o => keepR c_a1_1 ((Below.refl _ _).alloc (Nat.le_refl _) o)
        have a_a1_2 : ∀ o, (W1.alloc o).cell? ⟨w.heap.size, 2, none⟩ = some (.string h.r) := fun o => keepR c_a1_2 ((Below.refl _ _).alloc (Nat.le_refl _) o)
        have a_a1_3 : ∀ o, (W1.alloc o).cell? ⟨w.heap.size, 3, none⟩ = some (.slice ao1 b.length cap1) := fun o => keepR c_a1_3 ((Below.refl _ _).alloc (Nat.le_refl _) o)
        have a_a1_4 : ∀ o, (W1.alloc o).cell? ⟨w.heap.size, 4, none⟩ = some (.int .i64 s) := fun o => keepR c_a1_4 ((Below.refl _ _).alloc (Nat.le_refl _) o)
        obtain ⟨W2, HW2, b2, ff2⟩ : ∃ X, Hid ((W1.alloc (.cells #[.slice ao1 (b.length) cap1] 27)) = X) ∧ Below W1.heap.size W1 X ∧ Hid (Sl X (.slice (some ⟨W1.heap.size, 0, none⟩) 1 1) [.slice ao1 (b.length) cap1]) := ⟨_, rfl, (Below.refl _ _).alloc (Nat.le_refl _) _, slAllocK W1 [.slice ao1 (b.length) cap1] 27⟩
        have ff2 : Hid (Sl W2 (.slice (some ⟨w.heap.size + 1, 0, none⟩) 1 1) [.slice ao1 (b.length) cap1]) := by show Sl _ _ _; have h9 := ff2.out; rw [hS1.out] at h9; exact h9
        have z2 : W1.heap.size ≤ W2.heap.size := b2.size
        have B2 : Hid (Below w.heap.size w W2) := B1.out.trans (b2.mono B1.out.size)
        have r_a2 : Hid (W2.heap[w.heap.size]? = some (.cells #[.slice ao0 l.length cap0, .int .i64 h.n, .string h.r, .slice ao1 b.length cap1, .int .i64 s] 36 (0, 0))) := rowKeep r_a1.out b2
        have c_a2_0 : W2.cell? ⟨w.heap.size, 0, none⟩ = some (.slice ao0 l.length cap0) := row_at r_a2.out 0
        have c_a2_1 : W2.cell? ⟨w.heap.size, 1, none⟩ = some (.int .i64 h.n) := row_at r_a2.out 1
        have c_a2_2 : W2.cell? ⟨w.heap.size, 2, none⟩ = some (.string h.r) := row_at r_a2.out 2
        have c_a2_3 : W2.cell? ⟨w.heap.size, 3, none⟩ = some (.slice ao1 b.length cap1) := row_at r_a2.out 3
        have c_a2_4 : W2.cell? ⟨w.heap.size, 4, none⟩ = some (.int .i64 s) := row_at r_a2.out 4
        clear r_a1 c_a1_0 c_a1_1 c_a1_2 c_a1_3 c_a1_4
        have qj := joined_impl W2 _ _ [b.take (b.length)] ff2.out rfl (part1K (HSK.out _ B2.out)) (by simp) (by simp <;> omega)
        have e9 : [b.take (b.length)].flatten = b.take (b.length) := by simp
        rw [e9] at qj
        clear e9
        go_wp2_with fail
        rw [HW1.out, HW2.out]
        clear a_a1_0 a_a1_1 a_a1_2 a_a1_3 a_a1_4
        refine (qj).mono ?_
        rintro e W3 ⟨v_z, rfl, o_z3, b3⟩
        obtain ⟨ao_z, L_z, cap_z, rfl, hL_z, hM_z⟩ := o_z3.form
        have o_z3 : Hid (Own W3 W2.heap.size W3.heap.size 5 (.slice ao_z L_z cap_z) (bs (b.take (b.length)))) := o_z3
        clear hL_z hM_z
        have z3 : W2.heap.size ≤ W3.heap.size := b3.size
        have B3 : Hid (Below w.heap.size w W3) := B2.out.trans (b3.mono B2.out.size)
        have r_a3 : Hid (W3.heap[w.heap.size]? = some (.cells #[.slice ao0 l.length cap0, .int .i64 h.n, .string h.r, .slice ao1 b.length cap1, .int .i64 s] 36 (0, 0))) := rowKeep r_a2.out b3
        have c_a3_0 : W3.cell? ⟨w.heap.size, 0, none⟩ = some (.slice ao0 l.length cap0) := row_at r_a3.out 0
        have c_a3_1 : W3.cell? ⟨w.heap.size, 1, none⟩ = some (.int .i64 h.n) := row_at r_a3.out 1
        have c_a3_2 : W3.cell? ⟨w.heap.size, 2, none⟩ = some (.string h.r) := row_at r_a3.out 2
        have c_a3_3 : W3.cell? ⟨w.heap.size, 3, none⟩ = some (.slice ao1 b.length cap1) := row_at r_a3.out 3
        have c_a3_4 : W3.cell? ⟨w.heap.size, 4, none⟩ = some (.int .i64 s) := row_at r_a3.out 4
        clear r_a2 c_a2_0 c_a2_1 c_a2_2 c_a2_3 c_a2_4
        go_wp2
        go_ret
        refine ⟨_, rfl, ?_, B3.out⟩
        rw [HKK.out]
        exact Own.mono o_z3.out (by omega) (Nat.le_refl _)
      · have hKK : K = k := by omega
        have HKK : Hid (K = k) := hKK
        have hKb : k ≤ b.length := by omega
        have hKc : ((k : Nat) : Int) ≤ (cap1 : Int) := by omega
        clear hKK hK
        have HSK : Hid (∀ W, Below w.heap.size w W → Sl W (.slice ao1 (k) cap1) (bs (b.take (k)))) := by
          intro W hW
          have h9 := Sl.front (HSB.out.later hW) (k) (by rw [bs_len]; omega)
          have e9 : bs (b.take (k)) = (bs b).take (k) := by { unfold bs; rw [List.map_take] }
          rw [e9]
          exact h9
        go_enter Try.func7, Try.ntmps7
        have a_a1_0 : ∀ o, (W1.alloc o).cell? ⟨w.heap.size, 0, none⟩ = some (.slice ao0 l.length cap0) := fun o => keepR c_a1_0 ((Below.refl _ _).alloc (Nat.le_refl _) o)
        have a_a1_1 : ∀ o, (W1.alloc o).cell? ⟨w.heap.size, 1, none⟩ = some (.int .i64 h.n) := fun o => keepR c_a1_1 ((Below.refl _ _).alloc (Nat.le_refl _) o)
        have a_a1_2 : ∀ o, (W1.alloc o).cell? ⟨w.heap.size, 2, none⟩ = some (.string h.r) := fun o => keepR c_a1_2 ((Below.refl _ _).alloc (Nat.le_refl _) o)
        have a_a1_3 : ∀ o, (W1.alloc o).cell? ⟨w.heap.size, 3, none⟩ = some (.slice ao1 b.length cap1) := fun o => keepR c_a1_3 ((Below.refl _ _).alloc (Nat.le_refl _) o)
        have a_a1_4 : ∀ o, (W1.alloc o).cell? ⟨w.heap.size, 4, none⟩ = some (.int .i64 s) := fun o => keepR c_a1_4 ((Below.refl _ _).alloc (Nat.le_refl _) o)
        obtain ⟨W2, HW2, b2, ff2⟩ : ∃ X, Hid ((W1.alloc (.cells #[.slice ao1 (k) cap1] 27)) = X) ∧ Below W1.heap.size W1 X ∧ Hid (Sl X (.slice (some ⟨W1.heap.size, 0, none⟩) 1 1) [.slice ao1 (k) cap1]) := ⟨_, rfl, (Below.refl _ _).alloc (Nat.le_refl _) _, slAllocK W1 [.slice ao1 (k) cap1] 27⟩
        have ff2 : Hid (Sl W2 (.slice (some ⟨w.heap.size + 1, 0, none⟩) 1 1) [.slice ao1 (k) cap1]) := by show Sl _ _ _; have h9 := ff2.out; rw [hS1.out] at h9; exact h9
        have z2 : W1.heap.size ≤ W2.heap.size := b2.size
        have B2 : Hid (Below w.heap.size w W2) := B1.out.trans (b2.mono B1.out.size)
        have r_a2 : Hid (W2.heap[w.heap.size]? = some (.cells #[.slice ao0 l.length cap0, .int .i64 h.n, .string h.r, .slice ao1 b.length cap1, .int .i64 s] 36 (0, 0))) := rowKeep r_a1.out b2
        have c_a2_0 : W2.cell? ⟨w.heap.size, 0, none⟩ = some (.slice ao0 l.length cap0) := row_at r_a2.out 0
        have c_a2_1 : W2.cell? ⟨w.heap.size, 1, none⟩ = some (.int .i64 h.n) := row_at r_a2.out 1
        have c_a2_2 : W2.cell? ⟨w.heap.size, 2, none⟩ = some (.string h.r) := row_at r_a2.out 2
        have c_a2_3 : W2.cell? ⟨w.heap.size, 3, none⟩ = some (.slice ao1 b.length cap1) := row_at r_a2.out 3
        have c_a2_4 : W2.cell? ⟨w.heap.size, 4, none⟩ = some (.int .i64 s) := row_at r_a2.out 4
        clear r_a1 c_a1_0 c_a1_1 c_a1_2 c_a1_3 c_a1_4
        have qj := joined_impl W2 _ _ [b.take (k)] ff2.out rfl (part1K (HSK.out _ B2.out)) (by simp) (by simp <;> omega)
        have e9 : [b.take (k)].flatten = b.take (k) := by simp
        rw [e9] at qj
        clear e9
        go_wp2_with fail
        rw [HW1.out, HW2.out]
        clear a_a1_0 a_a1_1 a_a1_2 a_a1_3 a_a1_4
        refine (qj).mono ?_
        rintro e W3 ⟨v_z, rfl, o_z3, b3⟩
        obtain ⟨ao_z, L_z, cap_z, rfl, hL_z, hM_z⟩ := o_z3.form
        have o_z3 : Hid (Own W3 W2.heap.size W3.heap.size 5 (.slice ao_z L_z cap_z) (bs (b.take (k)))) := o_z3
        clear hL_z hM_z
        have z3 : W2.heap.size ≤ W3.heap.size := b3.size
        have B3 : Hid (Below w.heap.size w W3) := B2.out.trans (b3.mono B2.out.size)
        have r_a3 : Hid (W3.heap[w.heap.size]? = some (.cells #[.slice ao0 l.length cap0, .int .i64 h.n, .string h.r, .slice ao1 b.length cap1, .int .i64 s] 36 (0, 0))) := rowKeep r_a2.out b3
        have c_a3_0 : W3.cell? ⟨w.heap.size, 0, none⟩ = some (.slice ao0 l.length cap0) := row_at r_a3.out 0
        have c_a3_1 : W3.cell? ⟨w.heap.size, 1, none⟩ = some (.int .i64 h.n) := row_at r_a3.out 1
        have c_a3_2 : W3.cell? ⟨w.heap.size, 2, none⟩ = some (.string h.r) := row_at r_a3.out 2
        have c_a3_3 : W3.cell? ⟨w.heap.size, 3, none⟩ = some (.slice ao1 b.length cap1) := row_at r_a3.out 3
        have c_a3_4 : W3.cell? ⟨w.heap.size, 4, none⟩ = some (.int .i64 s) := row_at r_a3.out 4
        clear r_a2 c_a2_0 c_a2_1 c_a2_2 c_a2_3 c_a2_4
        go_wp2
        go_ret
        refine ⟨_, rfl, ?_, B3.out⟩
        rw [HKK.out]
        exact Own.mono o_z3.out (by omega) (Nat.le_refl _)
  · have hs9 : ¬ s < 0 := hs0
    by_cases hs1 : (b.length : Int) < s
    · by_cases hk0 : keep < 0
      · have hk9 : ¬ (0 : Int) < keep := by omega
        have w1 : IntKind.i64.wrap ((b.length : Int) - (b.length : Int)) = 0 := by rw [IntKind.wrap_i64]; omega
        have hKK : K = b.length := by omega
        have HKK : Hid (K = b.length) := hKK
        have hKb : b.length ≤ b.length := by omega
        have hKc : ((b.length : Nat) : Int) ≤ (cap1 : Int) := by omega
        clear hKK hK
        have HSK : Hid (∀ W, Below w.heap.size w W → Sl W (.slice ao1 (b.length) cap1) (bs (b.take (b.length)))) := by
          intro W hW
          have h9 := Sl.front (HSB.out.later hW) (b.length) (by rw [bs_len]; omega)
          have e9 : bs (b.take (b.length)) = (bs b).take (b.length) := by { unfold bs; rw [List.map_take] }
          rw [e9]
          exact h9
        go_enter Try.func7, Try.ntmps7
        have a_a1_0 : ∀ o, (W1.alloc o).cell? ⟨w.heap.size, 0, none⟩ = some (.slice ao0 l.length cap0) := fun o => keepR c_a1_0 ((Below.refl _ _).alloc (Nat.le_refl _) o)
        have a_a1_1 : ∀ o, (W1.alloc o).cell? ⟨w.heap.size, 1, none⟩ = some (.int .i64 h.n) := fun o => keepR c_a1_1 ((Below.refl _ _).alloc (Nat.le_refl _) o)
        have a_a1_2 : ∀ o, (W1.alloc o).cell? ⟨w.heap.size, 2, none⟩ = some (.string h.r) := fun o => keepR c_a1_2 ((Below.refl _ _).alloc (Nat.le_refl _) o)
        have a_a1_3 : ∀ o, (W1.alloc o).cell? ⟨w.heap.size, 3, none⟩ = some (.slice ao1 b.length cap1) := fun o => keepR c_a1_3 ((Below.refl _ _).alloc (Nat.le_refl _) o)
        have a_a1_4 : ∀ o, (W1.alloc o).cell? ⟨w.heap.size, 4, none⟩ = some (.int .i64 s) := fun o => keepR c_a1_4 ((Below.refl _ _).alloc (Nat.le_refl _) o)
        obtain ⟨W2, HW2, b2, ff2⟩ : ∃ X, Hid ((W1.alloc (.cells #[.slice ao1 (b.length) cap1] 27)) = X) ∧ Below W1.heap.size W1 X ∧ Hid (Sl X (.slice (some ⟨W1.heap.size, 0, none⟩) 1 1) [.slice ao1 (b.length) cap1]) := ⟨_, rfl, (Below.refl _ _).alloc (Nat.le_refl _) _, slAllocK W1 [.slice ao1 (b.length) cap1] 27⟩
        have ff2 : Hid (Sl W2 (.slice (some ⟨w.heap.size + 1, 0, none⟩) 1 1) [.slice ao1 (b.length) cap1]) := by show Sl _ _ _; have h9 := ff2.out; rw [hS1.out] at h9; exact h9
        have z2 : W1.heap.size ≤ W2.heap.size := b2.size
        have B2 : Hid (Below w.heap.size w W2) := B1.out.trans (b2.mono B1.out.size)
        have r_a2 : Hid (W2.heap[w.heap.size]? = some (.cells #[.slice ao0 l.length cap0, .int .i64 h.n, .string h.r, .slice ao1 b.length cap1, .int .i64 s] 36 (0, 0))) := rowKeep r_a1.out b2
        have c_a2_0 : W2.cell? ⟨w.heap.size, 0, none⟩ = some (.slice ao0 l.length cap0) := row_at r_a2.out 0
        have c_a2_1 : W2.cell? ⟨w.heap.size, 1, none⟩ = some (.int .i64 h.n) := row_at r_a2.out 1
        have c_a2_2 : W2.cell? ⟨w.heap.size, 2, none⟩ = some (.string h.r) := row_at r_a2.out 2
        have c_a2_3 : W2.cell? ⟨w.heap.size, 3, none⟩ = some (.slice ao1 b.length cap1) := row_at r_a2.out 3
        have c_a2_4 : W2.cell? ⟨w.heap.size, 4, none⟩ = some (.int .i64 s) := row_at r_a2.out 4
        clear r_a1 c_a1_0 c_a1_1 c_a1_2 c_a1_3 c_a1_4
        have qj := joined_impl W2 _ _ [b.take (b.length)] ff2.out rfl (part1K (HSK.out _ B2.out)) (by simp) (by simp <;> omega)
        have e9 : [b.take (b.length)].flatten = b.take (b.length) := by simp
        rw [e9] at qj
        clear e9
        go_wp2_with fail
        rw [HW1.out, HW2.out]
        clear a_a1_0 a_a1_1 a_a1_2 a_a1_3 a_a1_4
        refine (qj).mono ?_
        rintro e W3 ⟨v_z, rfl, o_z3, b3⟩
        obtain ⟨ao_z, L_z, cap_z, rfl, hL_z, hM_z⟩ := o_z3.form
        have o_z3 : Hid (Own W3 W2.heap.size W3.heap.size 5 (.slice ao_z L_z cap_z) (bs (b.take (b.length)))) := o_z3
        clear hL_z hM_z
        have z3 : W2.heap.size ≤ W3.heap.size := b3.size
        have B3 : Hid (Below w.heap.size w W3) := B2.out.trans (b3.mono B2.out.size)
        have r_a3 : Hid (W3.heap[w.heap.size]? = some (.cells #[.slice ao0 l.length cap0, .int .i64 h.n, .string h.r, .slice ao1 b.length cap1, .int .i64 s] 36 (0, 0))) := rowKeep r_a2.out b3
        have c_a3_0 : W3.cell? ⟨w.heap.size, 0, none⟩ = some (.slice ao0 l.length cap0) := row_at r_a3.out 0
        have c_a3_1 : W3.cell? ⟨w.heap.size, 1, none⟩ = some (.int .i64 h.n) := row_at r_a3.out 1
        have c_a3_2 : W3.cell? ⟨w.heap.size, 2, none⟩ = some (.string h.r) := row_at r_a3.out 2
        have c_a3_3 : W3.cell? ⟨w.heap.size, 3, none⟩ = some (.slice ao1 b.length cap1) := row_at r_a3.out 3
        have c_a3_4 : W3.cell? ⟨w.heap.size, 4, none⟩ = some (.int .i64 s) := row_at r_a3.out 4
        clear r_a2 c_a2_0 c_a2_1 c_a2_2 c_a2_3 c_a2_4
        go_wp2
        go_ret
        refine ⟨_, rfl, ?_, B3.out⟩
        rw [HKK.out]
        exact Own.mono o_z3.out (by omega) (Nat.le_refl _)
      · obtain ⟨k, rfl⟩ : ∃ k : Nat, keep = (k : Int) := ⟨keep.toNat, by omega⟩
        have hk9 : ¬ (k : Int) < 0 := by omega
        have w1 : IntKind.i64.wrap ((b.length : Int) - (b.length : Int)) = 0 := by rw [IntKind.wrap_i64]; omega
        by_cases hk0' : (0 : Int) < (k : Int)
        · have hKK : K = b.length := by omega
          have HKK : Hid (K = b.length) := hKK
          have hKb : b.length ≤ b.length := by omega
          have hKc : ((b.length : Nat) : Int) ≤ (cap1 : Int) := by omega
          clear hKK hK
          have HSK : Hid (∀ W, Below w.heap.size w W → Sl W (.slice ao1 (b.length) cap1) (bs (b.take (b.length)))) := by
            intro W hW
            have h9 := Sl.front (HSB.out.later hW) (b.length) (by rw [bs_len]; omega)
            have e9 : bs (b.take (b.length)) = (bs b).take (b.length) := by { unfold bs; rw [List.map_take] }
            rw [e9]
            exact h9
          go_enter Try.func7, Try.ntmps7
          have a_a1_0 : ∀ o, (W1.alloc o).cell? ⟨w.heap.size, 0, none⟩ = some (.slice ao0 l.length cap0) := fun o => keepR c_a1_0 ((Below.refl _ _).alloc (Nat.le_refl _) o)
          have a_a1_1 : ∀ o, (W1.alloc o).cell? ⟨w.heap.size, 1, none⟩ = some (.int .i64 h.n) := fun o => keepR c_a1_1 ((Below.refl _ _).alloc (Nat.le_refl _) o)
          have a_a1_2 : ∀ o, (W1.alloc o).cell? ⟨w.heap.size, 2, none⟩ = some (.string h.r) := fun o => keepR c_a1_2 ((Below.refl _ _).alloc (Nat.le_refl _) o)
          have a_a1_3 : ∀ o, (W1.alloc o).cell? ⟨w.heap.size, 3, none⟩ = some (.slice ao1 b.length cap1) := fun o => keepR c_a1_3 ((Below.refl _ _).alloc (Nat.le_refl _) o)
          have a_a1_4 : ∀ o, (W1.alloc o).cell? ⟨w.heap.size, 4, none⟩ = some (.int .i64 s) := fun o => keepR c_a1_4 ((Below.refl _ _).alloc (Nat.le_refl _) o)
          obtain ⟨W2, HW2, b2, ff2⟩ : ∃ X, Hid ((W1.alloc (.cells #[.slice ao1 (b.length) cap1] 27)) = X) ∧ Below W1.heap.size W1 X ∧ Hid (Sl X (.slice (some ⟨W1.heap.size, 0, none⟩) 1 1) [.slice ao1 (b.length) cap1]) := ⟨_, rfl, (Below.refl _ _).alloc (Nat.le_refl _) _, slAllocK W1 [.slice ao1 (b.length) cap1] 27⟩
          have ff2 : Hid (Sl W2 (.slice (some ⟨w.heap.size + 1, 0, none⟩) 1 1) [.slice ao1 (b.length) cap1]) := by show Sl _ _ _; have h9 := ff2.out; rw [hS1.out] at h9; exact h9
          have z2 : W1.heap.size ≤ W2.heap.size := b2.size
          have B2 : Hid (Below w.heap.size w W2) := B1.out.trans (b2.mono B1.out.size)
          have r_a2 : Hid (W2.heap[w.heap.size]? = some (.cells #[.slice ao0 l.length cap0, .int .i64 h.n, .string h.r, .slice ao1 b.length cap1, .int .i64 s] 36 (0, 0))) := rowKeep r_a1.out b2
          have c_a2_0 : W2.cell? ⟨w.heap.size, 0, none⟩ = some (.slice ao0 l.length cap0) := row_at r_a2.out 0
          have c_a2_1 : W2.cell? ⟨w.heap.size, 1, none⟩ = some (.int .i64 h.n) := row_at r_a2.out 1
          have c_a2_2 : W2.cell? ⟨w.heap.size, 2, none⟩ = some (.string h.r) := row_at r_a2.out 2
          have c_a2_3 : W2.cell? ⟨w.heap.size, 3, none⟩ = some (.slice ao1 b.length cap1) := row_at r_a2.out 3
          have c_a2_4 : W2.cell? ⟨w.heap.size, 4, none⟩ = some (.int .i64 s) := row_at r_a2.out 4
          clear r_a1 c_a1_0 c_a1_1 c_a1_2 c_a1_3 c_a1_4
          have qj := joined_impl W2 _ _ [b.take (b.length)] ff2.out rfl (part1K (HSK.out _ B2.out)) (by simp) (by simp <;> omega)
          have e9 : [b.take (b.length)].flatten = b.take (b.length) := by simp
          rw [e9] at qj
          clear e9
          go_wp2_with fail
          rw [HW1.out, HW2.out]
          clear a_a1_0 a_a1_1 a_a1_2 a_a1_3 a_a1_4
          refine (qj).mono ?_
          rintro e W3 ⟨v_z, rfl, o_z3, b3⟩
          obtain ⟨ao_z, L_z, cap_z, rfl, hL_z, hM_z⟩ := o_z3.form
          have o_z3 : Hid (Own W3 W2.heap.size W3.heap.size 5 (.slice ao_z L_z cap_z) (bs (b.take (b.length)))) := o_z3
          clear hL_z hM_z
          have z3 : W2.heap.size ≤ W3.heap.size := b3.size
          have B3 : Hid (Below w.heap.size w W3) := B2.out.trans (b3.mono B2.out.size)
          have r_a3 : Hid (W3.heap[w.heap.size]? = some (.cells #[.slice ao0 l.length cap0, .int .i64 h.n, .string h.r, .slice ao1 b.length cap1, .int .i64 s] 36 (0, 0))) := rowKeep r_a2.out b3
          have c_a3_0 : W3.cell? ⟨w.heap.size, 0, none⟩ = some (.slice ao0 l.length cap0) := row_at r_a3.out 0
          have c_a3_1 : W3.cell? ⟨w.heap.size, 1, none⟩ = some (.int .i64 h.n) := row_at r_a3.out 1
          have c_a3_2 : W3.cell? ⟨w.heap.size, 2, none⟩ = some (.string h.r) := row_at r_a3.out 2
          have c_a3_3 : W3.cell? ⟨w.heap.size, 3, none⟩ = some (.slice ao1 b.length cap1) := row_at r_a3.out 3
          have c_a3_4 : W3.cell? ⟨w.heap.size, 4, none⟩ = some (.int .i64 s) := row_at r_a3.out 4
          clear r_a2 c_a2_0 c_a2_1 c_a2_2 c_a2_3 c_a2_4
          go_wp2
          go_ret
          refine ⟨_, rfl, ?_, B3.out⟩
          rw [HKK.out]
          exact Own.mono o_z3.out (by omega) (Nat.le_refl _)
        · obtain rfl : k = 0 := by omega
          have hKK : K = b.length := by omega
          have HKK : Hid (K = b.length) := hKK
          have hKb : b.length ≤ b.length := by omega
          have hKc : ((b.length : Nat) : Int) ≤ (cap1 : Int) := by omega
          clear hKK hK
          have HSK : Hid (∀ W, Below w.heap.size w W → Sl W (.slice ao1 (b.length) cap1) (bs (b.take (b.length)))) := by
            intro W hW
            have h9 := Sl.front (HSB.out.later hW) (b.length) (by rw [bs_len]; omega)
            have e9 : bs (b.take (b.length)) = (bs b).take (b.length) := by { unfold bs; rw [List.map_take] }
            rw [e9]
            exact h9
          go_enter Try.func7, Try.ntmps7
          have a_a1_0 : ∀ o, (W1.alloc o).cell? ⟨w.heap.size, 0, none⟩ = some (.slice ao0 l.length cap0) := fun o => keepR c_a1_0 ((Below.refl _ _).alloc (Nat.le_refl _) o)
          have a_a1_1 : ∀ o, (W1.alloc o).cell? ⟨w.heap.size, 1, none⟩ = some (.int .i64 h.n) := fun o => keepR c_a1_1 ((Below.refl _ _).alloc (Nat.le_refl _) o)
          have a_a1_2 : ∀ o, (W1.alloc o).cell? ⟨w.heap.size, 2, none⟩ = some (.string h.r) := fun o => keepR c_a1_2 ((Below.refl _ _).alloc (Nat.le_refl _) o)
          have a_a1_3 : ∀ o, (W1.alloc o).cell? ⟨w.heap.size, 3, none⟩ = some (.slice ao1 b.length cap1) := fun o => keepR c_a1_3 ((Below.refl _ _).alloc (Nat.le_refl _) o)
          have a_a1_4 : ∀ o, (W1.alloc o).cell? ⟨w.heap.size, 4, none⟩ = some (.int .i64 s) := fun o => keepR c_a1_4 ((Below.refl _ _).alloc (Nat.le_refl _) o)
          obtain ⟨W2, HW2, b2, ff2⟩ : ∃ X, Hid ((W1.alloc (.cells #[.slice ao1 (b.length) cap1] 27)) = X) ∧ Below W1.heap.size W1 X ∧ Hid (Sl X (.slice (some ⟨W1.heap.size, 0, none⟩) 1 1) [.slice ao1 (b.length) cap1]) := ⟨_, rfl, (Below.refl _ _).alloc (Nat.le_refl _) _, slAllocK W1 [.slice ao1 (b.length) cap1] 27⟩
          have ff2 : Hid (Sl W2 (.slice (some ⟨w.heap.size + 1, 0, none⟩) 1 1) [.slice ao1 (b.length) cap1]) := by show Sl _ _ _; have h9 := ff2.out; rw [hS1.out] at h9; exact h9
          have z2 : W1.heap.size ≤ W2.heap.size := b2.size
          have B2 : Hid (Below w.heap.size w W2) := B1.out.trans (b2.mono B1.out.size)
          have r_a2 : Hid (W2.heap[w.heap.size]? = some (.cells #[.slice ao0 l.length cap0, .int .i64 h.n, .string h.r, .slice ao1 b.length cap1, .int .i64 s] 36 (0, 0))) := rowKeep r_a1.out b2
          have c_a2_0 : W2.cell? ⟨w.heap.size, 0, none⟩ = some (.slice ao0 l.length cap0) := row_at r_a2.out 0
          have c_a2_1 : W2.cell? ⟨w.heap.size, 1, none⟩ = some (.int .i64 h.n) := row_at r_a2.out 1
          have c_a2_2 : W2.cell? ⟨w.heap.size, 2, none⟩ = some (.string h.r) := row_at r_a2.out 2
          have c_a2_3 : W2.cell? ⟨w.heap.size, 3, none⟩ = some (.slice ao1 b.length cap1) := row_at r_a2.out 3
          have c_a2_4 : W2.cell? ⟨w.heap.size, 4, none⟩ = some (.int .i64 s) := row_at r_a2.out 4
          clear r_a1 c_a1_0 c_a1_1 c_a1_2 c_a1_3 c_a1_4
          have qj := joined_impl W2 _ _ [b.take (b.length)] ff2.out rfl (part1K (HSK.out _ B2.out)) (by simp) (by simp <;> omega)
          have e9 : [b.take (b.length)].flatten = b.take (b.length) := by simp
          rw [e9] at qj
          clear e9
          go_wp2_with fail
          rw [HW1.out, HW2.out]
          clear a_a1_0 a_a1_1 a_a1_2 a_a1_3 a_a1_4
          refine (qj).mono ?_
          rintro e W3 ⟨v_z, rfl, o_z3, b3⟩
          obtain ⟨ao_z, L_z, cap_z, rfl, hL_z, hM_z⟩ := o_z3.form
          have o_z3 : Hid (Own W3 W2.heap.size W3.heap.size 5 (.slice ao_z L_z cap_z) (bs (b.take (b.length)))) := o_z3
          clear hL_z hM_z
          have z3 : W2.heap.size ≤ W3.heap.size := b3.size
          have B3 : Hid (Below w.heap.size w W3) := B2.out.trans (b3.mono B2.out.size)
          have r_a3 : Hid (W3.heap[w.heap.size]? = some (.cells #[.slice ao0 l.length cap0, .int .i64 h.n, .string h.r, .slice ao1 b.length cap1, .int .i64 s] 36 (0, 0))) := rowKeep r_a2.out b3
          have c_a3_0 : W3.cell? ⟨w.heap.size, 0, none⟩ = some (.slice ao0 l.length cap0) := row_at r_a3.out 0
          have c_a3_1 : W3.cell? ⟨w.heap.size, 1, none⟩ = some (.int .i64 h.n) := row_at r_a3.out 1
          have c_a3_2 : W3.cell? ⟨w.heap.size, 2, none⟩ = some (.string h.r) := row_at r_a3.out 2
          have c_a3_3 : W3.cell? ⟨w.heap.size, 3, none⟩ = some (.slice ao1 b.length cap1) := row_at r_a3.out 3
          have c_a3_4 : W3.cell? ⟨w.heap.size, 4, none⟩ = some (.int .i64 s) := row_at r_a3.out 4
          clear r_a2 c_a2_0 c_a2_1 c_a2_2 c_a2_3 c_a2_4
          go_wp2
          go_ret
          refine ⟨_, rfl, ?_, B3.out⟩
          rw [HKK.out]
          exact Own.mono o_z3.out (by omega) (Nat.le_refl _)
    · obtain ⟨m, rfl⟩ : ∃ m : Nat, s = (m : Int) := ⟨s.toNat, by omega⟩
      have hmb : m ≤ b.length := by omega
      by_cases hk0 : keep < 0
      · by_cases he : (b.length : Int) - (m : Int) < 0
        · omega
        have w1 : IntKind.i64.wrap ((b.length : Int) - (m : Int)) = (b.length : Int) - (m : Int) := by rw [IntKind.wrap_i64]; omega
        have hk9 : ¬ (0 : Int) < keep := by omega
        have hKK : K = m := by omega
        have HKK : Hid (K = m) := hKK
        have hKb : m ≤ b.length := by omega
        have hKc : ((m : Nat) : Int) ≤ (cap1 : Int) := by omega
        clear hKK hK
        have HSK : Hid (∀ W, Below w.heap.size w W → Sl W (.slice ao1 (m) cap1) (bs (b.take (m)))) := by
          intro W hW
          have h9 := Sl.front (HSB.out.later hW) (m) (by rw [bs_len]; omega)
          have e9 : bs (b.take (m)) = (bs b).take (m) := by { unfold bs; rw [List.map_take] }
          rw [e9]
          exact h9
        go_enter Try.func7, Try.ntmps7
        have a_a1_0 : ∀ o, (W1.alloc o).cell? ⟨w.heap.size, 0, none⟩ = some (.slice ao0 l.length cap0) := fun o => keepR c_a1_0 ((Below.refl _ _).alloc (Nat.le_refl _) o)
        have a_a1_1 : ∀ o, (W1.alloc o).cell? ⟨w.heap.size, 1, none⟩ = some (.int .i64 h.n) := fun o => keepR c_a1_1 ((Below.refl _ _).alloc (Nat.le_refl _) o)
        have a_a1_2 : ∀ o, (W1.alloc o).cell? ⟨w.heap.size, 2, none⟩ = some (.string h.r) := fun o => keepR c_a1_2 ((Below.refl _ _).alloc (Nat.le_refl _) o)
        have a_a1_3 : ∀ o, (W1.alloc o).cell? ⟨w.heap.size, 3, none⟩ = some (.slice ao1 b.length cap1) := fun o => keepR c_a1_3 ((Below.refl _ _).alloc (Nat.le_refl _) o)
        have a_a1_4 : ∀ o, (W1.alloc o).cell? ⟨w.heap.size, 4, none⟩ = some (.int .i64 (m : Int)) := fun o => keepR c_a1_4 ((Below.refl _ _).alloc (Nat.le_refl _) o)
        obtain ⟨W2, HW2, b2, ff2⟩ : ∃ X, Hid ((W1.alloc (.cells #[.slice ao1 (m) cap1] 27)) = X) ∧ Below W1.heap.size W1 X ∧ Hid (Sl X (.slice (some ⟨W1.heap.size, 0, none⟩) 1 1) [.slice ao1 (m) cap1]) := ⟨_, rfl, (Below.refl _ _).alloc (Nat.le_refl _) _, slAllocK W1 [.slice ao1 (m) cap1] 27⟩
        have ff2 : Hid (Sl W2 (.slice (some ⟨w.heap.size + 1, 0, none⟩) 1 1) [.slice ao1 (m) cap1]) := by show Sl _ _ _; have h9 := ff2.out; rw [hS1.out] at h9; exact h9
        have z2 : W1.heap.size ≤ W2.heap.size := b2.size
        have B2 : Hid (Below w.heap.size w W2) := B1.out.trans (b2.mono B1.out.size)
        have r_a2 : Hid (W2.heap[w.heap.size]? = some (.cells #[.slice ao0 l.length cap0, .int .i64 h.n, .string h.r, .slice ao1 b.length cap1, .int .i64 (m : Int)] 36 (0, 0))) := rowKeep r_a1.out b2
        have c_a2_0 : W2.cell? ⟨w.heap.size, 0, none⟩ = some (.slice ao0 l.length cap0) := row_at r_a2.out 0
        have c_a2_1 : W2.cell? ⟨w.heap.size, 1, none⟩ = some (.int .i64 h.n) := row_at r_a2.out 1
        have c_a2_2 : W2.cell? ⟨w.heap.size, 2, none⟩ = some (.string h.r) := row_at r_a2.out 2
        have c_a2_3 : W2.cell? ⟨w.heap.size, 3, none⟩ = some (.slice ao1 b.length cap1) := row_at r_a2.out 3
        have c_a2_4 : W2.cell? ⟨w.heap.size, 4, none⟩ = some (.int .i64 (m : Int)) := row_at r_a2.out 4
        clear r_a1 c_a1_0 c_a1_1 c_a1_2 c_a1_3 c_a1_4
        have qj := joined_impl W2 _ _ [b.take (m)] ff2.out rfl (part1K (HSK.out _ B2.out)) (by simp) (by simp <;> omega)
        have e9 : [b.take (m)].flatten = b.take (m) := by simp
        rw [e9] at qj
        clear e9
        go_wp2_with fail
        rw [HW1.out, HW2.out]
        clear a_a1_0 a_a1_1 a_a1_2 a_a1_3 a_a1_4
        refine (qj).mono ?_
        rintro e W3 ⟨v_z, rfl, o_z3, b3⟩
        obtain ⟨ao_z, L_z, cap_z, rfl, hL_z, hM_z⟩ := o_z3.form
        have o_z3 : Hid (Own W3 W2.heap.size W3.heap.size 5 (.slice ao_z L_z cap_z) (bs (b.take (m)))) := o_z3
        clear hL_z hM_z
        have z3 : W2.heap.size ≤ W3.heap.size := b3.size
        have B3 : Hid (Below w.heap.size w W3) := B2.out.trans (b3.mono B2.out.size)
        have r_a3 : Hid (W3.heap[w.heap.size]? = some (.cells #[.slice ao0 l.length cap0, .int .i64 h.n, .string h.r, .slice ao1 b.length cap1, .int .i64 (m : Int)] 36 (0, 0))) := rowKeep r_a2.out b3
        have c_a3_0 : W3.cell? ⟨w.heap.size, 0, none⟩ = some (.slice ao0 l.length cap0) := row_at r_a3.out 0
        have c_a3_1 : W3.cell? ⟨w.heap.size, 1, none⟩ = some (.int .i64 h.n) := row_at r_a3.out 1
        have c_a3_2 : W3.cell? ⟨w.heap.size, 2, none⟩ = some (.string h.r) := row_at r_a3.out 2
        have c_a3_3 : W3.cell? ⟨w.heap.size, 3, none⟩ = some (.slice ao1 b.length cap1) := row_at r_a3.out 3
        have c_a3_4 : W3.cell? ⟨w.heap.size, 4, none⟩ = some (.int .i64 (m : Int)) := row_at r_a3.out 4
        clear r_a2 c_a2_0 c_a2_1 c_a2_2 c_a2_3 c_a2_4
        go_wp2
        go_ret
        refine ⟨_, rfl, ?_, B3.out⟩
        rw [HKK.out]
        exact Own.mono o_z3.out (by omega) (Nat.le_refl _)
      · obtain ⟨k, rfl⟩ : ∃ k : Nat, keep = (k : Int) := ⟨keep.toNat, by omega⟩
        have hk9 : ¬ (k : Int) < 0 := by omega
        have w1 : IntKind.i64.wrap ((b.length : Int) - (m : Int)) = (b.length : Int) - (m : Int) := by rw [IntKind.wrap_i64]; omega
        by_cases hk8 : (b.length : Int) - (m : Int) < (k : Int)
        · have hsum : (m : Int) + ((b.length : Int) - (m : Int)) = (b.length : Int) := by omega
          have hKK : K = b.length := by omega
          have HKK : Hid (K = b.length) := hKK
          have hKb : b.length ≤ b.length := by omega
          have hKc : ((b.length : Nat) : Int) ≤ (cap1 : Int) := by omega
          clear hKK hK
          have HSK : Hid (∀ W, Below w.heap.size w W → Sl W (.slice ao1 (b.length) cap1) (bs (b.take (b.length)))) := by
            intro W hW
            have h9 := Sl.front (HSB.out.later hW) (b.length) (by rw [bs_len]; omega)
            have e9 : bs (b.take (b.length)) = (bs b).take (b.length) := by { unfold bs; rw [List.map_take] }
            rw [e9]
            exact h9
          go_enter Try.func7, Try.ntmps7
          have a_a1_0 : ∀ o, (W1.alloc o).cell? ⟨w.heap.size, 0, none⟩ = some (.slice ao0 l.length cap0) := fun o => keepR c_a1_0 ((Below.refl _ _).alloc (Nat.le_refl _) o)
          have a_a1_1 : ∀ o, (W1.alloc o).cell? ⟨w.heap.size, 1, none⟩ = some (.int .i64 h.n) := fun o => keepR c_a1_1 ((Below.refl _ _).alloc (Nat.le_refl _) o)
          have a_a1_2 : ∀ o, (W1.alloc o).cell? ⟨w.heap.size, 2, none⟩ = some (.string h.r) := fun o => keepR c_a1_2 ((Below.refl _ _).alloc (Nat.le_refl _) o)
          have a_a1_3 : ∀ o, (W1.alloc o).cell? ⟨w.heap.size, 3, none⟩ = some (.slice ao1 b.length cap1) := fun o => keepR c_a1_3 ((Below.refl _ _).alloc (Nat.le_refl _) o)
          have a_a1_4 : ∀ o, (W1.alloc o).cell? ⟨w.heap.size, 4, none⟩ = some (.int .i64 (m : Int)) := fun o => keepR c_a1_4 ((Below.refl _ _).alloc (Nat.le_refl _) o)
          obtain ⟨W2, HW2, b2, ff2⟩ : ∃ X, Hid ((W1.alloc (.cells #[.slice ao1 (b.length) cap1] 27)) = X) ∧ Below W1.heap.size W1 X ∧ Hid (Sl X (.slice (some ⟨W1.heap.size, 0, none⟩) 1 1) [.slice ao1 (b.length) cap1]) := ⟨_, rfl, (Below.refl _ _).alloc (Nat.le_refl _) _, slAllocK W1 [.slice ao1 (b.length) cap1] 27⟩
          have ff2 : Hid (Sl W2 (.slice (some ⟨w.heap.size + 1, 0, none⟩) 1 1) [.slice ao1 (b.length) cap1]) := by show Sl _ _ _; have h9 := ff2.out; rw [hS1.out] at h9; exact h9
          have z2 : W1.heap.size ≤ W2.heap.size := b2.size
          have B2 : Hid (Below w.heap.size w W2) := B1.out.trans (b2.mono B1.out.size)
          have r_a2 : Hid (W2.heap[w.heap.size]? = some (.cells #[.slice ao0 l.length cap0, .int .i64 h.n, .string h.r, .slice ao1 b.length cap1, .int .i64 (m : Int)] 36 (0, 0))) := rowKeep r_a1.out b2
          have c_a2_0 : W2.cell? ⟨w.heap.size, 0, none⟩ = some (.slice ao0 l.length cap0) := row_at r_a2.out 0
          have c_a2_1 : W2.cell? ⟨w.heap.size, 1, none⟩ = some (.int .i64 h.n) := row_at r_a2.out 1
          have c_a2_2 : W2.cell? ⟨w.heap.size, 2, none⟩ = some (.string h.r) := row_at r_a2.out 2
          have c_a2_3 : W2.cell? ⟨w.heap.size, 3, none⟩ = some (.slice ao1 b.length cap1) := row_at r_a2.out 3
          have c_a2_4 : W2.cell? ⟨w.heap.size, 4, none⟩ = some (.int .i64 (m : Int)) := row_at r_a2.out 4
          clear r_a1 c_a1_0 c_a1_1 c_a1_2 c_a1_3 c_a1_4
          have qj := joined_impl W2 _ _ [b.take (b.length)] ff2.out rfl (part1K (HSK.out _ B2.out)) (by simp) (by simp <;> omega)
          have e9 : [b.take (b.length)].flatten = b.take (b.length) := by simp
          rw [e9] at qj
          clear e9
          go_wp2_with fail
          rw [HW1.out, HW2.out]
          clear a_a1_0 a_a1_1 a_a1_2 a_a1_3 a_a1_4
          refine (qj).mono ?_
          rintro e W3 ⟨v_z, rfl, o_z3, b3⟩
          obtain ⟨ao_z, L_z, cap_z, rfl, hL_z, hM_z⟩ := o_z3.form
          have o_z3 : Hid (Own W3 W2.heap.size W3.heap.size 5 (.slice ao_z L_z cap_z) (bs (b.take (b.length)))) := o_z3
          clear hL_z hM_z
          have z3 : W2.heap.size ≤ W3.heap.size := b3.size
          have B3 : Hid (Below w.heap.size w W3) := B2.out.trans (b3.mono B2.out.size)
          have r_a3 : Hid (W3.heap[w.heap.size]? = some (.cells #[.slice ao0 l.length cap0, .int .i64 h.n, .string h.r, .slice ao1 b.length cap1, .int .i64 (m : Int)] 36 (0, 0))) := rowKeep r_a2.out b3
          have c_a3_0 : W3.cell? ⟨w.heap.size, 0, none⟩ = some (.slice ao0 l.length cap0) := row_at r_a3.out 0
          have c_a3_1 : W3.cell? ⟨w.heap.size, 1, none⟩ = some (.int .i64 h.n) := row_at r_a3.out 1
          have c_a3_2 : W3.cell? ⟨w.heap.size, 2, none⟩ = some (.string h.r) := row_at r_a3.out 2
          have c_a3_3 : W3.cell? ⟨w.heap.size, 3, none⟩ = some (.slice ao1 b.length cap1) := row_at r_a3.out 3
          have c_a3_4 : W3.cell? ⟨w.heap.size, 4, none⟩ = some (.int .i64 (m : Int)) := row_at r_a3.out 4
          clear r_a2 c_a2_0 c_a2_1 c_a2_2 c_a2_3 c_a2_4
          go_wp2
          go_ret
          refine ⟨_, rfl, ?_, B3.out⟩
          rw [HKK.out]
          exact Own.mono o_z3.out (by omega) (Nat.le_refl _)
        · have hKK : K = m + k := by omega
          have HKK : Hid (K = m + k) := hKK
          have hKb : m + k ≤ b.length := by omega
          have hKc : ((m + k : Nat) : Int) ≤ (cap1 : Int) := by omega
          clear hKK hK
          have hwr : IntKind.i64.wrap ((m : Int) + (k : Int)) = ((m + k : Nat) : Int) := by rw [IntKind.wrap_i64]; omega
          have HSK : Hid (∀ W, Below w.heap.size w W → Sl W (.slice ao1 (m + k) cap1) (bs (b.take (m + k)))) := by
            intro W hW
            have h9 := Sl.front (HSB.out.later hW) (m + k) (by rw [bs_len]; omega)
            have e9 : bs (b.take (m + k)) = (bs b).take (m + k) := by { unfold bs; rw [List.map_take] }
            rw [e9]
            exact h9
          go_enter Try.func7, Try.ntmps7
          have a_a1_0 : ∀ o, (W1.alloc o).cell? ⟨w.heap.size, 0, none⟩ = some (.slice ao0 l.length cap0) := fun o => keepR c_a1_0 ((Below.refl _ _).alloc (Nat.le_refl _) o)
          have a_a1_1 : ∀ o, (W1.alloc o).cell? ⟨w.heap.size, 1, none⟩ = some (.int .i64 h.n) := fun o => keepR c_a1_1 ((Below.refl _ _).alloc (Nat.le_refl _) o)
          have a_a1_2 : ∀ o, (W1.alloc o).cell? ⟨w.heap.size, 2, none⟩ = some (.string h.r) := fun o => keepR c_a1_2 ((Below.refl _ _).alloc (Nat.le_refl _) o)
          have a_a1_3 : ∀ o, (W1.alloc o).cell? ⟨w.heap.size, 3, none⟩ = some (.slice ao1 b.length cap1) := fun o => keepR c_a1_3 ((Below.refl _ _).alloc (Nat.le_refl _) o)
          have a_a1_4 : ∀ o, (W1.alloc o).cell? ⟨w.heap.size, 4, none⟩ = some (.int .i64 (m : Int)) := fun o => keepR c_a1_4 ((Below.refl _ _).alloc (Nat.le_refl _) o)
          obtain ⟨W2, HW2, b2, ff2⟩ : ∃ X, Hid ((W1.alloc (.cells #[.slice ao1 (m + k) cap1] 27)) = X) ∧ Below W1.heap.size W1 X ∧ Hid (Sl X (.slice (some ⟨W1.heap.size, 0, none⟩) 1 1) [.slice ao1 (m + k) cap1]) := ⟨_, rfl, (Below.refl _ _).alloc (Nat.le_refl _) _, slAllocK W1 [.slice ao1 (m + k) cap1] 27⟩
          have ff2 : Hid (Sl W2 (.slice (some ⟨w.heap.size + 1, 0, none⟩) 1 1) [.slice ao1 (m + k) cap1]) := by show Sl _ _ _; have h9 := ff2.out; rw [hS1.out] at h9; exact h9
          have z2 : W1.heap.size ≤ W2.heap.size := b2.size
          have B2 : Hid (Below w.heap.size w W2) := B1.out.trans (b2.mono B1.out.size)
          have r_a2 : Hid (W2.heap[w.heap.size]? = some (.cells #[.slice ao0 l.length cap0, .int .i64 h.n, .string h.r, .slice ao1 b.length cap1, .int .i64 (m : Int)] 36 (0, 0))) := rowKeep r_a1.out b2
          have c_a2_0 : W2.cell? ⟨w.heap.size, 0, none⟩ = some (.slice ao0 l.length cap0) := row_at r_a2.out 0
          have c_a2_1 : W2.cell? ⟨w.heap.size, 1, none⟩ = some (.int .i64 h.n) := row_at r_a2.out 1
          have c_a2_2 : W2.cell? ⟨w.heap.size, 2, none⟩ = some (.string h.r) := row_at r_a2.out 2
          have c_a2_3 : W2.cell? ⟨w.heap.size, 3, none⟩ = some (.slice ao1 b.length cap1) := row_at r_a2.out 3
          have c_a2_4 : W2.cell? ⟨w.heap.size, 4, none⟩ = some (.int .i64 (m : Int)) := row_at r_a2.out 4
          clear r_a1 c_a1_0 c_a1_1 c_a1_2 c_a1_3 c_a1_4
          have qj := joined_impl W2 _ _ [b.take (m + k)] ff2.out rfl (part1K (HSK.out _ B2.out)) (by simp) (by simp <;> omega)
          have e9 : [b.take (m + k)].flatten = b.take (m + k) := by simp
          rw [e9] at qj
          clear e9
          go_wp2_with fail
          rw [HW1.out, HW2.out]
          clear a_a1_0 a_a1_1 a_a1_2 a_a1_3 a_a1_4
          refine (qj).mono ?_
          rintro e W3 ⟨v_z, rfl, o_z3, b3⟩
          obtain ⟨ao_z, L_z, cap_z, rfl, hL_z, hM_z⟩ := o_z3.form
          have o_z3 : Hid (Own W3 W2.heap.size W3.heap.size 5 (.slice ao_z L_z cap_z) (bs (b.take (m + k)))) := o_z3
          clear hL_z hM_z
          have z3 : W2.heap.size ≤ W3.heap.size := b3.size
          have B3 : Hid (Below w.heap.size w W3) := B2.out.trans (b3.mono B2.out.size)
          have r_a3 : Hid (W3.heap[w.heap.size]? = some (.cells #[.slice ao0 l.length cap0, .int .i64 h.n, .string h.r, .slice ao1 b.length cap1, .int .i64 (m : Int)] 36 (0, 0))) := rowKeep r_a2.out b3
          have c_a3_0 : W3.cell? ⟨w.heap.size, 0, none⟩ = some (.slice ao0 l.length cap0) := row_at r_a3.out 0
          have c_a3_1 : W3.cell? ⟨w.heap.size, 1, none⟩ = some (.int .i64 h.n) := row_at r_a3.out 1
          have c_a3_2 : W3.cell? ⟨w.heap.size, 2, none⟩ = some (.string h.r) := row_at r_a3.out 2
          have c_a3_3 : W3.cell? ⟨w.heap.size, 3, none⟩ = some (.slice ao1 b.length cap1) := row_at r_a3.out 3
          have c_a3_4 : W3.cell? ⟨w.heap.size, 4, none⟩ = some (.int .i64 (m : Int)) := row_at r_a3.out 4
          clear r_a2 c_a2_0 c_a2_1 c_a2_2 c_a2_3 c_a2_4
          go_wp2
          go_ret
          refine ⟨_, rfl, ?_, B3.out⟩
          rw [HKK.out]
          exact Own.mono o_z3.out (by omega) (Nat.le_refl _)

end Go.Proofs.Ytfpaichdkddglab.Sr
