/- Chapter 3: a version comes back of its text; plain facts alone. -/
import Derived.Test.YtbpgdagmffbagabDoorVerQ
namespace Go.Proofs.YtbpgdagmffbagabDoor.Ver
open Go.RowKit Go.Proofs.YtbpgdagmffbagabDoor.Mem Go.Proofs.YtbpgdagmffbagabDoor.Laws Go.Proofs.YtbpgdagmffbagabDoor.Bytes Go.Proofs.YtbpgdagmffbagabDoor.Sha
set_option linter.unusedVariables false
set_option linter.unusedSimpArgs false

theorem digF_good : ∀ (f n : Nat), n < 10 ^ (f + 1) → (digF f n).all isd = true ∧ numv (digF f n) = (n : Int) ∧ (0 < n → (digF f n).head? ≠ some 48) ∧ (n = 0 → digF f n = [48]) := by
  intro f
  induction f with
  | zero =>
    intro n hn
    have hn' : n < 10 := by simpa using hn
    refine ⟨by simp [digF, isd]; omega, by simp [digF, numv]; omega, fun h => by simp [digF]; omega, fun h => by simp [digF, h]⟩
  | succ f ih =>
    intro n hn
    by_cases h : n < 10
    · have e : digF (f + 1) n = [48 + (n : Int)] := by rw [digF, if_pos h]
      rw [e]
      refine ⟨by simp [isd]; omega, by simp [numv]; omega, fun h => by simp; omega, fun h => by simp [h]⟩
    · have e : digF (f + 1) n = digF f (n / 10) ++ [48 + ((n % 10 : Nat) : Int)] := by rw [digF, if_neg h]
      obtain ⟨i1, i2, i3, i4⟩ := ih (n / 10) (by rw [Nat.pow_succ] at hn; omega)
      have hl := digF_len f (n / 10)
      rw [e]
      refine ⟨?_, ?_, fun _ => ?_, fun h => by omega⟩
      · rw [List.all_append, i1]
        simp [isd]
        omega
      · rw [numv_snoc, i2]
        omega
      · have := i3 (by omega)
        cases hd : digF f (n / 10) with
        | nil => rw [hd] at hl; simp at hl
        | cons x y => rw [hd] at this; simpa using this
theorem digF_num {n : Nat} (h : n ≤ 1000000) : number (digF 6 n) = (n : Int) := by
  obtain ⟨i1, i2, i3, i4⟩ := digF_good 6 n (by omega)
  have hl := digF_len 6 n
  unfold number digs
  rw [if_neg, i2]
  rw [i1]
  rintro (h1 | h1 | h1)
  · cases hd : digF 6 n with
    | nil => rw [hd] at hl; simp at hl
    | cons x y => rw [hd] at h1; simp at h1
  · omega
  · by_cases h0 : n = 0
    · rw [i4 h0] at h1
      simp at h1
    · exact i3 (by omega) h1.2
theorem digF_no {f n : Nat} (h : n < 10 ^ (f + 1)) (b : Int) (hb : b < 48) : ∀ x ∈ digF f n, x ≠ b := by
  obtain ⟨i1, _⟩ := digF_good f n h
  intro x hx
  have := List.all_eq_true.1 i1 x hx
  simp [isd] at this
  omega
theorem split_part (b : Int) (x r : List Int) (h : ∀ y ∈ x, y ≠ b) : splitL b [] (x ++ [b] ++ r) = x :: splitL b [] r := by
  rw [splitL_skip b x.length (x ++ [b] ++ r) [] (by intro y hy; simp at hy; exact h y hy)]
  simp [splitL]
theorem split_last (b : Int) (x : List Int) (h : ∀ y ∈ x, y ≠ b) : splitL b [] x = [x] := by
  rw [splitL_skip b x.length x [] (by intro y hy; simp at hy; exact h y hy)]
  simp [splitL]

theorem findIdx_app (x r : List Int) (h : ∀ y ∈ x, y ≠ 45) : (x ++ [45] ++ r).findIdx? (fun c => c == 45) = some x.length := by
  rw [List.findIdx?_eq_some_iff_getElem]
  refine ⟨by simp, by simp, fun j hj => ?_⟩
  have : (x ++ [45] ++ r)[j]'(by simp; omega) = x[j] := by simp [List.getElem_append, hj]
  rw [this]
  simp
  exact h _ (List.getElem_mem hj)
theorem findIdx_none (x : List Int) (h : ∀ y ∈ x, y ≠ 45) : x.findIdx? (fun c => c == 45) = none := by
  rw [List.findIdx?_eq_none_iff]
  intro y hy
  simp
  exact h y hy

theorem splitT_of {s : ByteArray} {x y z : List Int} (hs : sb s = x ++ [46] ++ (y ++ [46] ++ z)) (hx : ∀ q ∈ x, q ≠ 46) (hy : ∀ q ∈ y, q ≠ 46) (hz : ∀ q ∈ z, q ≠ 46) : splitT 46 s = [Plain.txt x, Plain.txt y, Plain.txt z] := by
  unfold splitT split
  rw [hs, split_part 46 x _ hx, split_part 46 y _ hy, split_last 46 z hz]
  rfl

theorem nilB {p : ByteArray} (h : p.size = 0) : p = ⟨#[]⟩ := by
  have h2 : p.data.size = 0 := h
  apply ByteArray.ext
  exact Array.eq_empty_of_size_eq_zero h2

theorem parse_text {a b c : Int} {p : ByteArray} (hok : okV a b c p = true) : parseV (Plain.txt (vt a b c p)) = ((a, b, c, p), true) := by
  have hk := hok
  unfold okV at hk
  simp only [Bool.and_eq_true] at hk
  obtain ⟨n1, rfl, h1⟩ := inM_nat hk.1.1.1
  obtain ⟨n2, rfl, h2⟩ := inM_nat hk.1.1.2
  obtain ⟨n3, rfl, h3⟩ := inM_nat hk.1.2
  have y1 := digF_byt 6 n1 (by omega)
  have y2 := digF_byt 6 n2 (by omega)
  have y3 := digF_byt 6 n3 (by omega)
  have o46 : Byt [46] := fun x hx => by rw [List.mem_singleton] at hx; omega
  have o45 : Byt [45] := fun x hx => by rw [List.mem_singleton] at hx; omega
  have o118 : Byt [118] := fun x hx => by rw [List.mem_singleton] at hx; omega
  obtain ⟨N, hN⟩ : ∃ N, N = digF 6 n1 ++ [46] ++ (digF 6 n2 ++ [46] ++ digF 6 n3) := ⟨_, rfl⟩
  have yN : Byt N := by rw [hN]; exact (y1.app o46).app ((y2.app o46).app y3)
  have hv : vt n1 n2 n3 p = [118] ++ (N ++ (if p.size = 0 then [] else [45] ++ sb p)) := by
    unfold vt
    rw [hN]
    simp [List.append_assoc]
  have yR : Byt (N ++ (if p.size = 0 then [] else [45] ++ sb p)) := by
    refine yN.app ?_
    split
    · intro x hx; cases hx
    · exact o45.app (sb_byt p)
  have hno : ∀ y ∈ N, y ≠ 45 := by
    intro y hy
    rw [hN] at hy
    simp at hy
    rcases hy with hy | rfl | hy | rfl | hy
    · exact digF_no (by omega) 45 (by omega) y hy
    · omega
    · exact digF_no (by omega) 45 (by omega) y hy
    · omega
    · exact digF_no (by omega) 45 (by omega) y hy
  have hsb : sb (Plain.txt (vt n1 n2 n3 p)) = vt n1 n2 n3 p := sb_txtv (by rw [hv]; exact o118.app yR)
  obtain ⟨s, hs⟩ : ∃ s, s = Plain.txt (vt n1 n2 n3 p) := ⟨_, rfl⟩
  rw [← hs] at hsb ⊢
  unfold parseV
  rw [if_pos (by rw [hsb, hv]; rfl)]
  have hr : sb (s.extract 1 s.size) = N ++ (if p.size = 0 then [] else [45] ++ sb p) := by
    rw [sb_extract s 1 s.size (Nat.le_refl _), hsb, hv]
    have hl := sb_len s
    rw [hsb, hv] at hl
    simp at hl ⊢
    rw [List.take_of_length_le (by simp; omega)]
  obtain ⟨r, hrr⟩ : ∃ r, r = s.extract 1 s.size := ⟨_, rfl⟩
  rw [← hrr] at hr ⊢
  have hcut : sb (cut r).1 = N ∧ (cut r).2 = p := by
    by_cases hp : p.size = 0
    · rw [if_pos hp, List.append_nil] at hr
      unfold cut
      rw [hr, findIdx_none N hno]
      refine ⟨hr, ?_⟩
      exact (nilB hp).symm
    · rw [if_neg hp, ← List.append_assoc] at hr
      unfold cut
      rw [hr, findIdx_app N (sb p) hno]
      have hl : r.size = N.length + 1 + p.size := by
        have h5 := sb_len r
        rw [hr, List.length_append, List.length_append, sb_len] at h5
        exact h5.symm
      refine ⟨?_, ?_⟩
      · show sb (r.extract 0 N.length) = N
        rw [sb_extract r 0 N.length (by omega), hr]
        simp
      · show r.extract (N.length + 1) r.size = p
        have : sb (r.extract (N.length + 1) r.size) = sb p := by
          rw [sb_extract r (N.length + 1) r.size (Nat.le_refl _), hr]
          simp
          rw [List.take_of_length_le (by rw [sb_len]; omega)]
        rw [← txt_sbv (r.extract (N.length + 1) r.size), this, txt_sbv]
  obtain ⟨u, pr, huv⟩ : ∃ u pr, cut r = (u, pr) := ⟨_, _, rfl⟩
  rw [huv] at hcut ⊢
  simp only at hcut ⊢
  obtain ⟨hu, rfl⟩ := hcut
  have hT := splitT_of (s := u) (by rw [hu, hN]) (digF_no (by omega) 46 (by omega)) (digF_no (by omega) 46 (by omega)) (digF_no (by omega) 46 (by omega))
  rw [parse3_yes hT, sb_txtv y1, sb_txtv y2, sb_txtv y3, digF_num h1, digF_num h2, digF_num h3, if_pos]
  refine ⟨hok, (eqT_iff _ _).2 ?_⟩
  unfold verText
  rw [if_pos hok, hs]

theorem parse_back {s : ByteArray} {a b c : Int} {p : ByteArray} (h : parseV s = ((a, b, c, p), true)) : okV a b c p = true ∧ Plain.txt (verText a b c p) = s := by
  unfold parseV at h
  split at h
  · by_cases h3 : (splitT 46 (cut (s.extract 1 s.size)).1).length = 3
    · obtain ⟨x, y, z, hT⟩ := three h3
      rw [parse3_yes hT] at h
      split at h
      · rename_i hc
        simp only [Prod.mk.injEq, and_true] at h
        obtain ⟨rfl, rfl, rfl, rfl⟩ := h
        exact ⟨hc.1, (eqT_iff _ _).1 hc.2⟩
      · simp at h
    · rw [parse3_no _ h3] at h
      simp at h
  · simp at h

end Go.Proofs.YtbpgdagmffbagabDoor.Ver
