/- Chapter 4: paths and their last parts; plain facts alone. -/
import Derived.Test.YtnoopfpgkgjdcalMod4
namespace Go.Proofs.Ytnoopfpgkgjdcal.Mod
open Go.RowKit Go.Proofs.Ytnoopfpgkgjdcal.Mem Go.Proofs.Ytnoopfpgkgjdcal.Laws Go.Proofs.Ytnoopfpgkgjdcal.Bytes Go.Proofs.Ytnoopfpgkgjdcal.Sha Go.Proofs.Ytnoopfpgkgjdcal.Ver
set_option linter.unusedVariables false
set_option linter.unusedSimpArgs false

theorem pow_one (n : Nat) : (1 : Int) ≤ 10 ^ n := by
  induction n with
  | zero => simp
  | succ n ih => rw [Int.pow_succ]; omega
theorem pow_up (m : Nat) : ∀ k : Nat, (10 : Int) ^ m ≤ 10 ^ (m + k) := by
  intro k
  induction k with
  | zero => simp
  | succ k ih =>
    have := pow_one (m + k)
    rw [← Nat.add_assoc, Int.pow_succ]
    omega
theorem pow_le {m n : Nat} (h : m ≤ n) : (10 : Int) ^ m ≤ 10 ^ n := by
  have := pow_up m (n - m)
  rw [show m + (n - m) = n by omega] at this
  exact this
theorem snoc_of {l : List Int} (h : l ≠ []) : ∃ l' c, l = l' ++ [c] := ⟨l.dropLast, l.getLast h, (List.dropLast_concat_getLast h).symm⟩
/-- digits whose first is no nought are no less than a power of ten -/
theorem numv_big : ∀ (n : Nat) (l : List Int), l.length = n + 1 → l.all isd = true → l.head? ≠ some 48 → (10 : Int) ^ n ≤ numv l := by
  intro n
  induction n with
  | zero =>
    intro l hl ha hh
    match l, hl with
    | [c], _ =>
      simp [isd] at ha
      simp at hh
      simp [numv]
      omega
  | succ n ih =>
    intro l hl ha hh
    obtain ⟨l', c, rfl⟩ := snoc_of (l := l) (by intro h; rw [h] at hl; simp at hl)
    have hl' : l'.length = n + 1 := by simp at hl; omega
    rw [List.all_append, Bool.and_eq_true] at ha
    have hc : 48 ≤ c ∧ c ≤ 57 := by simpa [isd] using ha.2
    have h2 : l'.head? ≠ some 48 := by
      cases l' with
      | nil => simp at hl'
      | cons x y => simpa using hh
    have := ih l' hl' ha.1 h2
    rw [numv_snoc, Int.pow_succ]
    omega

theorem digF_back : ∀ (f : Nat) (l : List Int), (l.all isd = true ∧ l ≠ [] ∧ (1 < l.length → l.head? ≠ some 48)) → numv l < 10 ^ (f + 1) → digF f (numv l).toNat = l := by
  intro f
  induction f with
  | zero =>
    intro l hn hv
    obtain ⟨ha, h0, hh⟩ := hn
    have hp : 0 < l.length := List.length_pos_iff.2 h0
    have h1 : l.length = 1 := by
      by_cases h : l.length = 1
      · exact h
      · have hb := numv_big (l.length - 1) l (by omega) ha (hh (by omega))
        have : (10 : Int) ^ 1 ≤ 10 ^ (l.length - 1) := pow_le (by omega)
        simp at hv this
        omega
    match l, h1 with
    | [c], _ =>
      have hc : 48 ≤ c ∧ c ≤ 57 := by simpa [isd] using ha
      simp [digF, numv]
      omega
  | succ f ih =>
    intro l hn hv
    obtain ⟨ha, h0, hh⟩ := hn
    have hp : 0 < l.length := List.length_pos_iff.2 h0
    by_cases h1 : l.length = 1
    · match l, h1 with
      | [c], _ =>
        have hc : 48 ≤ c ∧ c ≤ 57 := by simpa [isd] using ha
        have : (numv [c]).toNat < 10 := by simp [numv]; omega
        unfold digF
        rw [if_pos this]
        simp [numv]
        omega
    · obtain ⟨l', c, rfl⟩ := snoc_of h0
      have hl1 : 0 < l'.length := by simp at h1; exact List.length_pos_iff.2 h1
      have hh2 : l'.head? ≠ some 48 := by
        have := hh (by simp; omega)
        cases l' with
        | nil => simp at hl1
        | cons x y => simpa using this
      rw [List.all_append, Bool.and_eq_true] at ha
      have hc : 48 ≤ c ∧ c ≤ 57 := by simpa [isd] using ha.2
      have hn' : l'.all isd = true ∧ l' ≠ [] ∧ (1 < l'.length → l'.head? ≠ some 48) := ⟨ha.1, List.length_pos_iff.1 hl1, fun _ => hh2⟩
      have hb := numv_big (l'.length - 1) l' (by omega) ha.1 hh2
      have hpos : (1 : Int) ≤ 10 ^ (l'.length - 1) := pow_one _
      have hs := numv_snoc l' c
      have hv' : numv l' < 10 ^ (f + 1) := by rw [hs, Int.pow_succ] at hv; omega
      have hr := ih l' hn' hv'
      rw [hs]
      have e1 : (numv l' * 10 + (c - 48)).toNat / 10 = (numv l').toNat := by omega
      have e2 : (((numv l' * 10 + (c - 48)).toNat % 10 : Nat) : Int) = c - 48 := by omega
      unfold digF
      rw [if_neg (by omega), e1, e2, hr]
      simp
      omega

/-- a number's text is the one that it was read of -/
theorem number_back {l : List Int} (h : 0 ≤ number l) (h2 : number l ≤ 1000000) : digF 6 (number l).toNat = l := by
  unfold number at h h2 ⊢
  split at h
  · omega
  · rename_i hc
    rw [if_neg hc] at h2 ⊢
    rw [not_or, not_or] at hc
    obtain ⟨h3, h4, h5⟩ := hc
    have h6 : digs l = true := by simpa using h3
    unfold digs at h6
    rw [Bool.and_eq_true] at h6
    refine digF_back 6 l ⟨h6.1, ?_, fun hl hh => h5 ⟨hl, hh⟩⟩ (by simp; omega)
    have := h6.2
    simpa using this

theorem splitL_app (b : Int) (r : List Int) : ∀ (q cur : List Int), splitL b cur (q ++ [b] ++ r) = splitL b cur q ++ splitL b [] r := by
  intro q
  induction q with
  | nil => intro cur; simp [splitL]
  | cons c q ih =>
    intro cur
    simp only [List.cons_append]
    rw [splitL.eq_2 b cur c (q ++ [b] ++ r), splitL.eq_2 b cur c q]
    split
    · rw [ih]; simp
    · rw [ih]
theorem splitL_none (b : Int) : ∀ (r cur : List Int), (∀ x ∈ r, x ≠ b) → splitL b cur r = [cur ++ r] := by
  intro r
  induction r with
  | nil => intro cur _; simp [splitL]
  | cons c r ih =>
    intro cur h
    unfold splitL
    rw [if_neg (h c (by simp)), ih _ (fun x hx => h x (by simp [hx]))]
    simp
/-- a list that holds b: what stands before its last b, and behind -/
theorem last_of (b : Int) : ∀ l : List Int, b ∈ l → ∃ q r, l = q ++ [b] ++ r ∧ ∀ x ∈ r, x ≠ b := by
  intro l
  induction l with
  | nil => intro h; simp at h
  | cons c l ih =>
    intro h
    by_cases hb : b ∈ l
    · obtain ⟨q, r, rfl, hr⟩ := ih hb
      exact ⟨c :: q, r, by simp, hr⟩
    · have : b = c := by simpa [hb] using h
      subst this
      exact ⟨[], l, by simp, fun x hx e => hb (e ▸ hx)⟩

/-- a path whose last part tells a number -/
theorem maj4_form {s : ByteArray} (h : maj4 s ≠ 0) : ∃ q d : List Int, sb s = q ++ [47] ++ ([118] ++ d) ∧ split 47 (sb s) = split 47 q ++ [[118] ++ d] ∧ number d = maj4 s ∧ digF 6 (maj4 s).toNat = d ∧ 2 ≤ maj4 s ∧ maj4 s ≤ 1000 ∧ ∀ x ∈ d, x ≠ 47 := by
  have hbd := maj4_bd s
  have hm : maj4 s = if (splitT 47 s).length < 2 ∨ (sb (lastT s)).head? ≠ some 118 then 0 else in4 (number (sb ((lastT s).extract 1 (lastT s).size))) := rfl
  split at hm
  · exact absurd hm h
  · rename_i hc
    rw [not_or] at hc
    obtain ⟨h1, h2⟩ := hc
    have hT := splitT_sb 47 s
    have hin : (47 : Int) ∈ sb s := by
      apply Classical.byContradiction
      intro hn
      have : split 47 (sb s) = [sb s] := by
        unfold split
        rw [splitL_none 47 _ _ (fun x hx e => hn (e ▸ hx))]
        simp
      have h3 : (splitT 47 s).length = 1 := by rw [← List.length_map (f := sb), hT, this]; rfl
      omega
    obtain ⟨q, r, hs, hr⟩ := last_of 47 _ hin
    have hsp : split 47 (sb s) = split 47 q ++ [r] := by
      unfold split
      rw [hs, splitL_app, splitL_none 47 r [] hr]
      simp
    have hlast : sb (lastT s) = r := by
      have h4 : (splitT 47 s).map sb = split 47 q ++ [r] := by rw [hT, hsp]
      have h5 : ((splitT 47 s).map sb).getLast? = some r := by rw [h4]; simp
      rw [List.getLast?_map] at h5
      unfold lastT
      cases hg : (splitT 47 s).getLast? with
      | none => rw [hg] at h5; simp at h5
      | some x => rw [hg] at h5; simpa using h5
    rw [hlast] at h2
    have h2' : r.head? = some 118 := by simpa using h2
    obtain ⟨d, rfl⟩ : ∃ d, r = [118] ++ d := by
      cases r with
      | nil => simp at h2'
      | cons x d => simp at h2'; exact ⟨d, by rw [h2']; rfl⟩
    have hd : sb ((lastT s).extract 1 (lastT s).size) = d := by
      rw [ext_txt, hlast]
      have hz : (lastT s).size = d.length + 1 := by rw [← sb_len, hlast]; simp
      rw [hz]
      have hB : Byt d := by
        have := sb_byt (lastT s)
        rw [hlast] at this
        exact fun x hx => this x (by simp [hx])
      rw [show ((([118] ++ d : List Int).drop 1).take (d.length + 1 - 1)) = d by simp]
      exact sb_txtv hB
    rw [hd] at hm
    have hn : number d = maj4 s := by
      rw [hm]
      unfold in4
      split
      · rfl
      · rename_i hc
        exfalso
        apply h
        rw [hm]
        unfold in4
        rw [if_neg hc]
    refine ⟨q, d, hs, hsp, hn, ?_, by omega, by omega, fun x hx => hr x (by simp [hx])⟩
    rw [← hn]
    exact number_back (by omega) (by omega)

theorem maj4_len {s : ByteArray} (h : maj4 s ≠ 0) : 2 + (digF 6 (maj4 s).toNat).length ≤ s.size := by
  obtain ⟨q, d, h1, h2, h3, h4, _⟩ := maj4_form h
  have := congrArg List.length h1
  rw [sb_len] at this
  rw [h4]
  simp at this
  omega
/-- a path's base: the path, or what stands before the last part -/
theorem base4_form {s : ByteArray} (hp : path4 (sb s) = true) : path4 (sb (base4 s)) = true ∧ (base4 s).size ≤ s.size ∧ s.extract 0 (base4 s).size = base4 s ∧ (maj4 s = 0 → base4 s = s) := by
  unfold base4
  rw [if_pos hp]
  by_cases h0 : maj4 s = 0
  · rw [if_pos h0]
    refine ⟨hp, Nat.le_refl _, ?_, fun _ => rfl⟩
    apply ByteArray.ext
    simp
  · rw [if_neg h0]
    obtain ⟨q, d, h1, h2, h3, h4, _⟩ := maj4_form h0
    have hl := congrArg List.length h1
    rw [sb_len] at hl
    rw [h4]
    have e : s.size - 2 - d.length = q.length := by simp at hl; omega
    rw [e]
    have hx : s.extract 0 q.length = Plain.txt q := by rw [ext_txt, h1]; simp
    have hq : Byt q := by
      have := sb_byt s
      rw [h1] at this
      exact fun x hx => this x (by simp [hx])
    have hz : (Plain.txt q).size = q.length := txt_sizev q
    rw [hx, hz, sb_txtv hq]
    refine ⟨?_, by simp at hl; omega, hx, fun h => absurd h h0⟩
    unfold path4 at hp ⊢
    rw [h2] at hp
    rw [h1] at hp
    simp only [Bool.and_eq_true, decide_eq_true_eq, List.all_append, List.length_append] at hp ⊢
    refine ⟨⟨hp.1.1.1, by omega⟩, by omega⟩

end Go.Proofs.Ytnoopfpgkgjdcal.Mod
