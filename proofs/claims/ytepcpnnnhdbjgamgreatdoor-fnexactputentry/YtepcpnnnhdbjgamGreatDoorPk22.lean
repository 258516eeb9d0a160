/- Texts in one: VerQ, VerR, EntP0. -/
import Derived.Test.YtepcpnnnhdbjgamGreatDoorPk21
import Derived.Test.YtepcpnnnhdbjgamGreatDoorPk11
/- Chapter 3: a text that is read as the landed code reads it, against the specification's way; plain facts alone. -/
namespace Go.Proofs.YtepcpnnnhdbjgamGreatDoor.Ver
open Go.RowKit Go.Proofs.YtepcpnnnhdbjgamGreatDoor.Mem Go.Proofs.YtepcpnnnhdbjgamGreatDoor.Laws Go.Proofs.YtepcpnnnhdbjgamGreatDoor.Bytes Go.Proofs.YtepcpnnnhdbjgamGreatDoor.Sha
set_option linter.unusedVariables false
set_option linter.unusedSimpArgs false

theorem isNum_digs {l : List Int} (h : isNum l = true) : l.all isd = true ∧ l ≠ [] ∧ (1 < l.length → l.head? ≠ some 48) := by
  unfold isNum at h
  simp only [Bool.and_eq_true, Bool.or_eq_true, decide_eq_true_eq, Bool.not_eq_true', List.isEmpty_eq_false_iff, decide_eq_false_iff_not] at h
  refine ⟨h.1, ?_, ?_⟩
  · rcases h.2 with h2 | h2
    · rw [h2]; simp
    · exact h2.1
  · intro hl
    rcases h.2 with h2 | h2
    · rw [h2] at hl; simp at hl
    · exact h2.2
theorem isNum_of {l : List Int} (h : l.all isd = true) (h0 : l ≠ []) (h1 : l.head? ≠ some 48) : isNum l = true := by
  unfold isNum
  have : l.isEmpty = false := List.isEmpty_eq_false_iff.2 h0
  simp [h, this, h1]

theorem pow_one (n : Nat) : (1 : Int) ≤ 10 ^ n := by
  induction n with
  | zero => simp
  | succ n ih => rw [Int.pow_succ]; omega
theorem pow_up (m : Nat) : ∀ k : Nat, (10 : Int) ^ m ≤ 10 ^ (m + k) := by
  intro k
  induction k with
  | zero => simp
  | succ k ih =>
    have := pow_one (m + k)
    rw [← Nat.add_assoc, Int.pow_succ]
    omega
theorem pow_le {m n : Nat} (h : m ≤ n) : (10 : Int) ^ m ≤ 10 ^ n := by
  have := pow_up m (n - m)
  rw [show m + (n - m) = n by omega] at this
  exact this
theorem snoc_of {l : List Int} (h : l ≠ []) : ∃ l' c, l = l' ++ [c] := ⟨l.dropLast, l.getLast h, (List.dropLast_concat_getLast h).symm⟩
/-- digits whose first is no nought are no less than a power of ten -/
theorem numv_big : ∀ (n : Nat) (l : List Int), l.length = n + 1 → l.all isd = true → l.head? ≠ some 48 → (10 : Int) ^ n ≤ numv l := by
  intro n
  induction n with
  | zero =>
    intro l hl ha hh
    match l, hl with
    | [c], _ =>
      simp [isd] at ha
      simp at hh
      simp [numv]
      omega
  | succ n ih =>
    intro l hl ha hh
    obtain ⟨l', c, rfl⟩ := snoc_of (l := l) (by intro h; rw [h] at hl; simp at hl)
    have hl' : l'.length = n + 1 := by simp at hl; omega
    rw [List.all_append, Bool.and_eq_true] at ha
    have hc : 48 ≤ c ∧ c ≤ 57 := by simpa [isd] using ha.2
    have h2 : l'.head? ≠ some 48 := by
      cases l' with
      | nil => simp at hl'
      | cons x y => simpa using hh
    have := ih l' hl' ha.1 h2
    rw [numv_snoc, Int.pow_succ]
    omega

theorem num_upTo (l : List Int) : (inM (number l) = true ↔ (upTo l 1000000).2 = true) ∧ (inM (number l) = true → number l = (upTo l 1000000).1) := by
  by_cases hn : isNum l = true
  · obtain ⟨ha, h0, hh⟩ := isNum_digs hn
    have hp : 0 < l.length := List.length_pos_iff.2 h0
    by_cases h8 : l.length ≤ 8
    · have hnum : number l = numv l := by
        unfold number digs
        rw [if_neg]
        rw [ha, List.isEmpty_eq_false_iff.2 h0]
        rintro (h | h | h)
        · simp at h
        · omega
        · exact hh h.1 h.2
      have hv := numv_nonneg ha
      by_cases hm : numv l ≤ 1000000
      · have hu : upTo l 1000000 = (numv l, true) := by unfold upTo; rw [if_pos ⟨hn, hm⟩]
        rw [hu, hnum]
        exact ⟨⟨fun _ => rfl, fun _ => by unfold inM; simp [hv, hm]⟩, fun _ => rfl⟩
      · have hu : upTo l 1000000 = (0, false) := by unfold upTo; rw [if_neg (fun h => hm h.2)]
        rw [hu, hnum]
        have : inM (numv l) = false := by unfold inM; simp; omega
        rw [this]
        simp
    · have hb := numv_big (l.length - 1) l (by omega) ha (hh (by omega))
      have h8' : (10 : Int) ^ 8 ≤ 10 ^ (l.length - 1) := pow_le (by omega)
      have hu : upTo l 1000000 = (0, false) := by unfold upTo; rw [if_neg (fun h => by have := h.2; omega)]
      have hnum : number l = -1 := by unfold number; rw [if_pos (.inr (.inl (by omega)))]
      rw [hu, hnum]
      simp [inM]
  · have hu : upTo l 1000000 = (0, false) := by unfold upTo; rw [if_neg (fun h => hn h.1)]
    have hnum : number l < 0 := by
      by_cases h8 : l.length ≤ 8
      · have := isNum_number h8
        rw [Bool.eq_false_iff.2 hn] at this
        have := of_decide_eq_false this.symm
        omega
      · unfold number
        rw [if_pos (.inr (.inl (by omega)))]
        omega
    have : inM (number l) = false := by unfold inM; simp; omega
    rw [hu, this]
    simp

theorem digF_back : ∀ (f : Nat) (l : List Int), isNum l = true → numv l < 10 ^ (f + 1) → digF f (numv l).toNat = l := by
  intro f
  induction f with
  | zero =>
    intro l hn hv
    obtain ⟨ha, h0, hh⟩ := isNum_digs hn
    have hp : 0 < l.length := List.length_pos_iff.2 h0
    have h1 : l.length = 1 := by
      by_cases h : l.length = 1
      · exact h
      · have hb := numv_big (l.length - 1) l (by omega) ha (hh (by omega))
        have : (10 : Int) ^ 1 ≤ 10 ^ (l.length - 1) := pow_le (by omega)
        simp at hv this
        omega
    match l, h1 with
    | [c], _ =>
      have hc : 48 ≤ c ∧ c ≤ 57 := by simpa [isd] using ha
      simp [digF, numv]
      omega
  | succ f ih =>
    intro l hn hv
    obtain ⟨ha, h0, hh⟩ := isNum_digs hn
    have hp : 0 < l.length := List.length_pos_iff.2 h0
    by_cases h1 : l.length = 1
    · match l, h1 with
      | [c], _ =>
        have hc : 48 ≤ c ∧ c ≤ 57 := by simpa [isd] using ha
        have : (numv [c]).toNat < 10 := by simp [numv]; omega
        unfold digF
        rw [if_pos this]
        simp [numv]
        omega
    · obtain ⟨l', c, rfl⟩ := snoc_of h0
      have hl1 : 0 < l'.length := by simp at h1; exact List.length_pos_iff.2 h1
      have hh2 : l'.head? ≠ some 48 := by
        have := hh (by simp; omega)
        cases l' with
        | nil => simp at hl1
        | cons x y => simpa using this
      rw [List.all_append, Bool.and_eq_true] at ha
      have hc : 48 ≤ c ∧ c ≤ 57 := by simpa [isd] using ha.2
      have hn' : isNum l' = true := isNum_of ha.1 (List.length_pos_iff.1 hl1) hh2
      have hb := numv_big (l'.length - 1) l' (by omega) ha.1 hh2
      have hpos : (1 : Int) ≤ 10 ^ (l'.length - 1) := pow_one _
      have hs := numv_snoc l' c
      have hv' : numv l' < 10 ^ (f + 1) := by rw [hs, Int.pow_succ] at hv; omega
      have hr := ih l' hn' hv'
      rw [hs]
      have e1 : (numv l' * 10 + (c - 48)).toNat / 10 = (numv l').toNat := by omega
      have e2 : (((numv l' * 10 + (c - 48)).toNat % 10 : Nat) : Int) = c - 48 := by omega
      unfold digF
      rw [if_neg (by omega), e1, e2, hr]
      simp
      omega

/-- parts with a sign between -/
def join (b : Int) : List (List Int) → List Int
  | [] => []
  | [x] => x
  | x :: y :: r => x ++ [b] ++ join b (y :: r)
theorem join_split (b : Int) : ∀ (l cur : List Int), join b (splitL b cur l) = cur ++ l := by
  intro l
  induction l with
  | nil => intro cur; simp [splitL, join]
  | cons c r ih =>
    intro cur
    unfold splitL
    split
    · rename_i h
      have hp := splitL_pos b r []
      have hi := ih []
      cases hs : splitL b [] r with
      | nil => rw [hs] at hp; simp at hp
      | cons x y =>
        rw [hs] at hi
        rw [join, hi, h]
        simp
    · rw [ih]; simp

theorem eqT_iff (a b : ByteArray) : eqT a b = true ↔ a = b := by
  unfold eqT
  rw [beq_iff_eq, ByteArray.toList_eq, ByteArray.toList_eq]
  constructor
  · intro h; apply ByteArray.ext; apply Array.ext'; exact h
  · rintro rfl; rfl
theorem parse3_no {s u : ByteArray} (pr : ByteArray) (h : (splitT 46 u).length ≠ 3) : parse3 s u pr = ((0, 0, 0, ⟨#[]⟩), false) := by
  unfold parse3
  match splitT 46 u, h with
  | [], _ => rfl
  | [_], _ => rfl
  | [_, _], _ => rfl
  | [_, _, _], h => exact absurd rfl h
  | _ :: _ :: _ :: _ :: _, _ => rfl
theorem parse3_yes {s u pr x y z : ByteArray} (h : splitT 46 u = [x, y, z]) : parse3 s u pr = if okV (number (sb x)) (number (sb y)) (number (sb z)) pr = true ∧ eqT (Plain.txt (verText (number (sb x)) (number (sb y)) (number (sb z)) pr)) s = true then ((number (sb x), number (sb y), number (sb z), pr), true) else ((0, 0, 0, ⟨#[]⟩), false) := by
  unfold parse3
  rw [h]
def outQ : Option (Int × Int × Int × ByteArray) → (Int × Int × Int × ByteArray) × Bool
  | none => ((0, 0, 0, ⟨#[]⟩), false)
  | some q => (q, true)
theorem digits_back {l : List Int} (h : inM (number l) = true) : digF 6 (number l).toNat = l := by
  obtain ⟨h1, h2⟩ := num_upTo l
  have h3 := h1.1 h
  rw [h2 h]
  unfold upTo at h3 ⊢
  split at h3
  · rename_i hc
    rw [if_pos hc]
    exact digF_back 6 l hc.1 (by have := hc.2; simp; omega)
  · simp at h3
theorem read_core (s u pr : ByteArray) (d : Bool) (hS : sb s = [118] ++ sb u ++ (if d = true then [45] ++ sb pr else [])) (hd : d = false → pr.size = 0) :
    outQ (if ¬ (d = true ∧ pr.size = 0) then read3 (splitT 46 u) pr else none) = parse3 s u pr := by
  by_cases h3 : (splitT 46 u).length = 3
  · obtain ⟨x, y, z, hT⟩ := three h3
    have hu : sb u = sb x ++ [46] ++ (sb y ++ [46] ++ sb z) := by
      have h1 := splitT_sb 46 u
      rw [hT] at h1
      have h2 := join_split 46 (sb u) []
      unfold split at h1
      rw [← h1] at h2
      simpa [join] using h2.symm
    rw [parse3_yes hT, hT, read3_three]
    obtain ⟨a1, a2⟩ := num_upTo (sb x)
    obtain ⟨b1, b2⟩ := num_upTo (sb y)
    obtain ⟨c1, c2⟩ := num_upTo (sb z)
    by_cases hok : okV (number (sb x)) (number (sb y)) (number (sb z)) pr = true
    · have hk := hok
      unfold okV at hk
      simp only [Bool.and_eq_true] at hk
      obtain ⟨⟨⟨k1, k2⟩, k3⟩, _⟩ := hk
      have hr : ((upTo (sb x) 1000000).2 = true ∧ (upTo (sb y) 1000000).2 = true ∧ (upTo (sb z) 1000000).2 = true ∧ okV (upTo (sb x) 1000000).1 (upTo (sb y) 1000000).1 (upTo (sb z) 1000000).1 pr = true) := by
        refine ⟨a1.1 k1, b1.1 k2, c1.1 k3, ?_⟩
        rw [← a2 k1, ← b2 k2, ← c2 k3]
        exact hok
      rw [if_pos hr, ← a2 k1, ← b2 k2, ← c2 k3]
      have hvt : verText (number (sb x)) (number (sb y)) (number (sb z)) pr = [118] ++ sb u ++ (if pr.size = 0 then [] else [45] ++ sb pr) := by
        unfold verText
        rw [if_pos hok]
        unfold vt
        rw [digits_back k1, digits_back k2, digits_back k3, hu]
        simp [List.append_assoc]
      rw [hvt]
      cases d with
      | false =>
        have h0 := hd rfl
        have he : Plain.txt ([118] ++ sb u ++ (if pr.size = 0 then [] else [45] ++ sb pr)) = s := by
          have hs' : [118] ++ sb u ++ (if pr.size = 0 then [] else [45] ++ sb pr) = sb s := by rw [hS]; simp [h0]
          rw [hs', txt_sbv]
        rw [he, if_pos (by simp), if_pos ⟨hok, (eqT_iff s s).2 rfl⟩]
        rfl
      | true =>
        by_cases h0 : pr.size = 0
        · have hne : ¬ eqT (Plain.txt ([118] ++ sb u ++ (if pr.size = 0 then [] else [45] ++ sb pr))) s = true := by
            intro he
            have he := (eqT_iff _ _).1 he
            have h5 : (Plain.txt ([118] ++ sb u ++ (if pr.size = 0 then [] else [45] ++ sb pr))).size = s.size := by rw [he]
            rw [txt_sizev, ← sb_len s, hS] at h5
            simp [h0] at h5
          rw [if_neg (by simp [h0]), if_neg (fun h => hne h.2)]
          rfl
        · have he : Plain.txt ([118] ++ sb u ++ (if pr.size = 0 then [] else [45] ++ sb pr)) = s := by
            have hs' : [118] ++ sb u ++ (if pr.size = 0 then [] else [45] ++ sb pr) = sb s := by rw [hS]; simp [h0]
            rw [hs', txt_sbv]
          rw [he, if_pos (by simp [h0]), if_pos ⟨hok, (eqT_iff s s).2 rfl⟩]
          rfl
    · have hr : ¬ ((upTo (sb x) 1000000).2 = true ∧ (upTo (sb y) 1000000).2 = true ∧ (upTo (sb z) 1000000).2 = true ∧ okV (upTo (sb x) 1000000).1 (upTo (sb y) 1000000).1 (upTo (sb z) 1000000).1 pr = true) := by
        rintro ⟨h1, h2, h3, h4⟩
        rw [← a2 (a1.2 h1), ← b2 (b1.2 h2), ← c2 (c1.2 h3)] at h4
        exact hok h4
      rw [if_neg hr, ite_self, if_neg (fun h => hok h.1)]
      rfl
  · rw [parse3_no pr h3, read3_no pr h3]
    split <;> rfl

theorem sb_extract (s : ByteArray) (f k : Nat) (hk : k ≤ s.size) : sb (s.extract f k) = ((sb s).drop f).take (k - f) := by
  rw [ext_txt]
  refine sb_txtv fun x hx => sb_byt s x ?_
  exact List.mem_of_mem_drop (List.mem_of_mem_take hx)

theorem parse_same (s : ByteArray) : parseI s = parseV s := by
  have hout : parseI s = outQ (readI s) := by unfold parseI outQ; cases readI s <;> rfl
  rw [hout]
  unfold readI parseV
  by_cases hv : (sb s).head? = some 118
  · have hva : vAt s = true := by unfold vAt; simp [hv]
    have hvo : vOff s = s.extract 1 s.size := by unfold vOff; rw [if_pos hva]
    rw [if_pos hv, hvo, hva]
    have hS : sb s = [118] ++ sb (s.extract 1 s.size) := by
      cases hb : sb s with
      | nil => rw [hb] at hv; simp at hv
      | cons x y =>
        rw [hb] at hv
        simp at hv
        have hl := sb_len s
        rw [hb] at hl
        simp at hl
        rw [sb_extract s 1 s.size (Nat.le_refl _), hb, hv]
        simp
        rw [List.take_of_length_le (by omega)]
    obtain ⟨r, hr⟩ : ∃ r, r = s.extract 1 s.size := ⟨_, rfl⟩
    rw [← hr] at hS ⊢
    clear hr hvo
    cases hd : (sb r).findIdx? (fun c => c == 45) with
    | none =>
      have e1 : dash r = -1 := by unfold dash; rw [hd]
      have e2 : cut r = (r, ⟨#[]⟩) := by unfold cut; rw [hd]
      rw [e1, e2]
      have h := read_core s r ⟨#[]⟩ false (by simpa using hS) (fun _ => rfl)
      simpa using h
    | some i =>
      have e1 : dash r = (i : Int) := by unfold dash; rw [hd]
      have e2 : cut r = (r.extract 0 i, r.extract (i + 1) r.size) := by unfold cut; rw [hd]
      have hi := dash_some hd
      rw [e1, e2]
      have hc : (sb r)[i]? = some 45 := by
        obtain ⟨h1, h2, _⟩ := List.findIdx?_eq_some_iff_getElem.1 hd
        rw [List.getElem?_eq_getElem h1]
        simpa using h2
      have hsp : sb r = sb (r.extract 0 i) ++ ([45] ++ sb (r.extract (i + 1) r.size)) := by
        rw [sb_extract r 0 i (by omega), sb_extract r (i + 1) r.size (Nat.le_refl _)]
        conv => lhs; rw [← List.take_append_drop i (sb r), drop_consI hc]
        simp
        rw [List.take_of_length_le (by simp [sb_len])]
      have h := read_core s (r.extract 0 i) (r.extract (i + 1) r.size) true (by rw [hS, hsp]; simp) (fun h => by cases h)
      simpa using h
  · have hva : vAt s = false := by unfold vAt; simp [hv]
    rw [if_neg hv, if_neg (by rw [hva]; simp)]
    rfl

end Go.Proofs.YtepcpnnnhdbjgamGreatDoor.Ver

/- Chapter 3: a version comes back of its text; plain facts alone. -/
namespace Go.Proofs.YtepcpnnnhdbjgamGreatDoor.Ver
open Go.RowKit Go.Proofs.YtepcpnnnhdbjgamGreatDoor.Mem Go.Proofs.YtepcpnnnhdbjgamGreatDoor.Laws Go.Proofs.YtepcpnnnhdbjgamGreatDoor.Bytes Go.Proofs.YtepcpnnnhdbjgamGreatDoor.Sha
set_option linter.unusedVariables false
set_option linter.unusedSimpArgs false

theorem digF_good : ∀ (f n : Nat), n < 10 ^ (f + 1) → (digF f n).all isd = true ∧ numv (digF f n) = (n : Int) ∧ (0 < n → (digF f n).head? ≠ some 48) ∧ (n = 0 → digF f n = [48]) := by
  intro f
  induction f with
  | zero =>
    intro n hn
    have hn' : n < 10 := by simpa using hn
    refine ⟨by simp [digF, isd]; omega, by simp [digF, numv]; omega, fun h => by simp [digF]; omega, fun h => by simp [digF, h]⟩
  | succ f ih =>
    intro n hn
    by_cases h : n < 10
    · have e : digF (f + 1) n = [48 + (n : Int)] := by rw [digF, if_pos h]
      rw [e]
      refine ⟨by simp [isd]; omega, by simp [numv]; omega, fun h => by simp; omega, fun h => by simp [h]⟩
    · have e : digF (f + 1) n = digF f (n / 10) ++ [48 + ((n % 10 : Nat) : Int)] := by rw [digF, if_neg h]
      obtain ⟨i1, i2, i3, i4⟩ := ih (n / 10) (by rw [Nat.pow_succ] at hn; omega)
      have hl := digF_len f (n / 10)
      rw [e]
      refine ⟨?_, ?_, fun _ => ?_, fun h => by omega⟩
      · rw [List.all_append, i1]
        simp [isd]
        omega
      · rw [numv_snoc, i2]
        omega
      · have := i3 (by omega)
        cases hd : digF f (n / 10) with
        | nil => rw [hd] at hl; simp at hl
        | cons x y => rw [hd] at this; simpa using this
theorem digF_num {n : Nat} (h : n ≤ 1000000) : number (digF 6 n) = (n : Int) := by
  obtain ⟨i1, i2, i3, i4⟩ := digF_good 6 n (by omega)
  have hl := digF_len 6 n
  unfold number digs
  rw [if_neg, i2]
  rw [i1]
  rintro (h1 | h1 | h1)
  · cases hd : digF 6 n with
    | nil => rw [hd] at hl; simp at hl
    | cons x y => rw [hd] at h1; simp at h1
  · omega
  · by_cases h0 : n = 0
    · rw [i4 h0] at h1
      simp at h1
    · exact i3 (by omega) h1.2
theorem digF_no {f n : Nat} (h : n < 10 ^ (f + 1)) (b : Int) (hb : b < 48) : ∀ x ∈ digF f n, x ≠ b := by
  obtain ⟨i1, _⟩ := digF_good f n h
  intro x hx
  have := List.all_eq_true.1 i1 x hx
  simp [isd] at this
  omega
theorem split_part (b : Int) (x r : List Int) (h : ∀ y ∈ x, y ≠ b) : splitL b [] (x ++ [b] ++ r) = x :: splitL b [] r := by
  rw [splitL_skip b x.length (x ++ [b] ++ r) [] (by intro y hy; simp at hy; exact h y hy)]
  simp [splitL]
theorem split_last (b : Int) (x : List Int) (h : ∀ y ∈ x, y ≠ b) : splitL b [] x = [x] := by
  rw [splitL_skip b x.length x [] (by intro y hy; simp at hy; exact h y hy)]
  simp [splitL]

theorem findIdx_app (x r : List Int) (h : ∀ y ∈ x, y ≠ 45) : (x ++ [45] ++ r).findIdx? (fun c => c == 45) = some x.length := by
  rw [List.findIdx?_eq_some_iff_getElem]
  refine ⟨by simp, by simp, fun j hj => ?_⟩
  have : (x ++ [45] ++ r)[j]'(by simp; omega) = x[j] := by simp [List.getElem_append, hj]
  rw [this]
  simp
  exact h _ (List.getElem_mem hj)
theorem findIdx_none (x : List Int) (h : ∀ y ∈ x, y ≠ 45) : x.findIdx? (fun c => c == 45) = none := by
  rw [List.findIdx?_eq_none_iff]
  intro y hy
  simp
  exact h y hy

theorem splitT_of {s : ByteArray} {x y z : List Int} (hs : sb s = x ++ [46] ++ (y ++ [46] ++ z)) (hx : ∀ q ∈ x, q ≠ 46) (hy : ∀ q ∈ y, q ≠ 46) (hz : ∀ q ∈ z, q ≠ 46) : splitT 46 s = [Plain.txt x, Plain.txt y, Plain.txt z] := by
  unfold splitT split
  rw [hs, split_part 46 x _ hx, split_part 46 y _ hy, split_last 46 z hz]
  rfl

theorem nilB {p : ByteArray} (h : p.size = 0) : p = ⟨#[]⟩ := by
  have h2 : p.data.size = 0 := h
  apply ByteArray.ext
  exact Array.eq_empty_of_size_eq_zero h2

theorem parse_text {a b c : Int} {p : ByteArray} (hok : okV a b c p = true) : parseV (Plain.txt (vt a b c p)) = ((a, b, c, p), true) := by
  have hk := hok
  unfold okV at hk
  simp only [Bool.and_eq_true] at hk
  obtain ⟨n1, rfl, h1⟩ := inM_nat hk.1.1.1
  obtain ⟨n2, rfl, h2⟩ := inM_nat hk.1.1.2
  obtain ⟨n3, rfl, h3⟩ := inM_nat hk.1.2
  have y1 := digF_byt 6 n1 (by omega)
  have y2 := digF_byt 6 n2 (by omega)
  have y3 := digF_byt 6 n3 (by omega)
  have o46 : Byt [46] := fun x hx => by rw [List.mem_singleton] at hx; omega
  have o45 : Byt [45] := fun x hx => by rw [List.mem_singleton] at hx; omega
  have o118 : Byt [118] := fun x hx => by rw [List.mem_singleton] at hx; omega
  obtain ⟨N, hN⟩ : ∃ N, N = digF 6 n1 ++ [46] ++ (digF 6 n2 ++ [46] ++ digF 6 n3) := ⟨_, rfl⟩
  have yN : Byt N := by rw [hN]; exact (y1.app o46).app ((y2.app o46).app y3)
  have hv : vt n1 n2 n3 p = [118] ++ (N ++ (if p.size = 0 then [] else [45] ++ sb p)) := by
    unfold vt
    rw [hN]
    simp [List.append_assoc]
  have yR : Byt (N ++ (if p.size = 0 then [] else [45] ++ sb p)) := by
    refine yN.app ?_
    split
    · intro x hx; cases hx
    · exact o45.app (sb_byt p)
  have hno : ∀ y ∈ N, y ≠ 45 := by
    intro y hy
    rw [hN] at hy
    simp at hy
    rcases hy with hy | rfl | hy | rfl | hy
    · exact digF_no (by omega) 45 (by omega) y hy
    · omega
    · exact digF_no (by omega) 45 (by omega) y hy
    · omega
    · exact digF_no (by omega) 45 (by omega) y hy
  have hsb : sb (Plain.txt (vt n1 n2 n3 p)) = vt n1 n2 n3 p := sb_txtv (by rw [hv]; exact o118.app yR)
  obtain ⟨s, hs⟩ : ∃ s, s = Plain.txt (vt n1 n2 n3 p) := ⟨_, rfl⟩
  rw [← hs] at hsb ⊢
  unfold parseV
  rw [if_pos (by rw [hsb, hv]; rfl)]
  have hr : sb (s.extract 1 s.size) = N ++ (if p.size = 0 then [] else [45] ++ sb p) := by
    rw [sb_extract s 1 s.size (Nat.le_refl _), hsb, hv]
    have hl := sb_len s
    rw [hsb, hv] at hl
    simp at hl ⊢
    rw [List.take_of_length_le (by simp; omega)]
  obtain ⟨r, hrr⟩ : ∃ r, r = s.extract 1 s.size := ⟨_, rfl⟩
  rw [← hrr] at hr ⊢
  have hcut : sb (cut r).1 = N ∧ (cut r).2 = p := by
    by_cases hp : p.size = 0
    · rw [if_pos hp, List.append_nil] at hr
      unfold cut
      rw [hr, findIdx_none N hno]
      refine ⟨hr, ?_⟩
      exact (nilB hp).symm
    · rw [if_neg hp, ← List.append_assoc] at hr
      unfold cut
      rw [hr, findIdx_app N (sb p) hno]
      have hl : r.size = N.length + 1 + p.size := by
        have h5 := sb_len r
        rw [hr, List.length_append, List.length_append, sb_len] at h5
        exact h5.symm
      refine ⟨?_, ?_⟩
      · show sb (r.extract 0 N.length) = N
        rw [sb_extract r 0 N.length (by omega), hr]
        simp
      · show r.extract (N.length + 1) r.size = p
        have : sb (r.extract (N.length + 1) r.size) = sb p := by
          rw [sb_extract r (N.length + 1) r.size (Nat.le_refl _), hr]
          simp
          rw [List.take_of_length_le (by rw [sb_len]; omega)]
        rw [← txt_sbv (r.extract (N.length + 1) r.size), this, txt_sbv]
  obtain ⟨u, pr, huv⟩ : ∃ u pr, cut r = (u, pr) := ⟨_, _, rfl⟩
  rw [huv] at hcut ⊢
  simp only at hcut ⊢
  obtain ⟨hu, rfl⟩ := hcut
  have hT := splitT_of (s := u) (by rw [hu, hN]) (digF_no (by omega) 46 (by omega)) (digF_no (by omega) 46 (by omega)) (digF_no (by omega) 46 (by omega))
  rw [parse3_yes hT, sb_txtv y1, sb_txtv y2, sb_txtv y3, digF_num h1, digF_num h2, digF_num h3, if_pos]
  refine ⟨hok, (eqT_iff _ _).2 ?_⟩
  unfold verText
  rw [if_pos hok, hs]

theorem parse_back {s : ByteArray} {a b c : Int} {p : ByteArray} (h : parseV s = ((a, b, c, p), true)) : okV a b c p = true ∧ Plain.txt (verText a b c p) = s := by
  unfold parseV at h
  split at h
  · by_cases h3 : (splitT 46 (cut (s.extract 1 s.size)).1).length = 3
    · obtain ⟨x, y, z, hT⟩ := three h3
      rw [parse3_yes hT] at h
      split at h
      · rename_i hc
        simp only [Prod.mk.injEq, and_true] at h
        obtain ⟨rfl, rfl, rfl, rfl⟩ := h
        exact ⟨hc.1, (eqT_iff _ _).1 hc.2⟩
      · simp at h
    · rw [parse3_no _ h3] at h
      simp at h
  · simp at h

end Go.Proofs.YtepcpnnnhdbjgamGreatDoor.Ver

/- Chapter 5: names; plain facts alone. -/
namespace Go.Proofs.YtepcpnnnhdbjgamGreatDoor.Ent
open Go.RowKit Go.Proofs.YtepcpnnnhdbjgamGreatDoor.Mem Go.Proofs.YtepcpnnnhdbjgamGreatDoor.Laws Go.Proofs.YtepcpnnnhdbjgamGreatDoor.Bytes Go.Proofs.YtepcpnnnhdbjgamGreatDoor.Sha Go.Proofs.YtepcpnnnhdbjgamGreatDoor.Ver Go.Proofs.YtepcpnnnhdbjgamGreatDoor.Mod
set_option linter.unusedVariables false
set_option linter.unusedSimpArgs false

/-- a sign that is no mark between parts is in a part -/
theorem in_part (b : Int) : ∀ (l cur : List Int) (x : Int), x ≠ b → (x ∈ l ∨ x ∈ cur) → ∃ p ∈ splitL b cur l, x ∈ p := by
  intro l
  induction l with
  | nil =>
    intro cur x hx h
    rcases h with h | h
    · cases h
    · exact ⟨cur, by simp [splitL], h⟩
  | cons c r ih =>
    intro cur x hx h
    rw [splitL]
    split
    · rename_i hc
      rcases h with h | h
      · rcases List.mem_cons.1 h with rfl | h
        · exact absurd hc hx
        · obtain ⟨p, hp, hxp⟩ := ih [] x hx (.inl h)
          exact ⟨p, List.mem_cons_of_mem _ hp, hxp⟩
      · exact ⟨cur, by simp, h⟩
    · obtain ⟨p, hp, hxp⟩ := ih (cur ++ [c]) x hx (by
        rcases h with h | h
        · rcases List.mem_cons.1 h with rfl | h
          · exact .inr (by simp)
          · exact .inl h
        · exact .inr (by simp [h]))
      exact ⟨p, hp, hxp⟩
theorem signs4_no : ∀ (l : List Int) (i : Nat), signs4 i l = true → ∀ x ∈ l, x ≠ 64 := by
  intro l
  induction l with
  | nil => intro i _ x hx; cases hx
  | cons c r ih =>
    intro i h x hx
    simp only [signs4, Bool.and_eq_true] at h
    rcases List.mem_cons.1 hx with rfl | hx
    · rintro rfl
      have := h.1
      simp [sign4, plain4] at this
    · exact ih _ h.2 x hx
theorem path_no {l : List Int} (h : path4 l = true) : ∀ x ∈ l, x ≠ 64 := by
  intro x hx hx64
  subst hx64
  obtain ⟨p, hp, hxp⟩ := in_part 47 l [] 64 (by omega) (.inl hx)
  unfold path4 at h
  simp only [Bool.and_eq_true, List.all_eq_true] at h
  have := h.1.1 p hp
  unfold part4 at this
  rw [Bool.and_eq_true] at this
  exact signs4_no p 0 this.1 64 hxp rfl

theorem vt_no {a b c : Int} {p : ByteArray} (h : okV a b c p = true) : ∀ x ∈ vt a b c p, x ≠ 64 := by
  unfold okV at h
  simp only [Bool.and_eq_true, Bool.or_eq_true] at h
  obtain ⟨⟨⟨ha, hb⟩, hc⟩, hp⟩ := h
  have hd : ∀ {z : Int}, inM z = true → ∀ x ∈ digF 6 z.toNat, x ≠ 64 := by
    intro z hz x hx hx64
    obtain ⟨m, rfl, hm⟩ := inM_nat hz
    have := (digF_good 6 m (by simp; omega)).1
    rw [List.all_eq_true] at this
    have h2 := this x (by simpa using hx)
    subst hx64
    simp [isd] at h2
  intro x hx hx64
  subst hx64
  unfold vt at hx
  simp only [List.mem_append, List.mem_singleton] at hx
  rcases hx with (((((hx | hx) | hx) | hx) | hx) | hx) | hx
  · omega
  · exact hd ha 64 hx rfl
  · omega
  · exact hd hb 64 hx rfl
  · omega
  · exact hd hc 64 hx rfl
  · split at hx
    · cases hx
    · rename_i hz
      simp only [List.mem_append, List.mem_singleton] at hx
      rcases hx with hx | hx
      · omega
      · rcases hp with hp | hp
        · exact hz (of_decide_eq_true hp)
        · obtain ⟨q, hq, hxq⟩ := in_part 46 (sb p) [] 64 (by omega) (.inl hx)
          unfold Ver.pre at hp
          rw [Bool.and_eq_true, List.all_eq_true] at hp
          have h7 : Ver.part q = true := hp.1 q hq
          unfold Ver.part at h7
          rw [Bool.and_eq_true, Bool.and_eq_true] at h7
          have h8 := List.all_eq_true.1 h7.1.1 64 hxq
          simp [psign] at h8

theorem ok_parts {n : Nd} (h : n.ok = true) : path4 (sb n.path) = true ∧ okV n.a n.b n.c n.pre = true := by
  unfold Nd.ok fits4 at h
  simp only [Bool.and_eq_true, decide_eq_true_eq] at h
  refine ⟨?_, h.1.2⟩
  by_cases hp : path4 (sb n.path) = true
  · exact hp
  · have h1 := h.1.1
    unfold major4 at h1
    rw [if_neg hp] at h1
    omega
theorem sb_app (a b : ByteArray) : sb (a ++ b) = sb a ++ sb b := by unfold sb; simp
theorem sb_at : sb ⟨#[64]⟩ = [64] := rfl
theorem verText_ok {a b c : Int} {p : ByteArray} (h : okV a b c p = true) : verText a b c p = vt a b c p := by unfold verText; rw [if_pos h]
theorem vt_byt {a b c : Int} {p : ByteArray} (h : okV a b c p = true) : Byt (vt a b c p) := by
  unfold okV at h
  simp only [Bool.and_eq_true, Bool.or_eq_true] at h
  obtain ⟨⟨⟨ha, hb⟩, hc⟩, hp⟩ := h
  have hd : ∀ {z : Int}, inM z = true → Byt (digF 6 z.toNat) := by
    intro z hz x hx
    obtain ⟨m, rfl, hm⟩ := inM_nat hz
    have := (digF_good 6 m (by simp; omega)).1
    rw [List.all_eq_true] at this
    have h2 := this x (by simpa using hx)
    simp [isd] at h2
    omega
  have h1 : ∀ {z : Int}, 0 ≤ z ∧ z ≤ 255 → Byt [z] := by intro z hz x hx; simp at hx; omega
  unfold vt
  refine ((((((h1 (by omega)).app (hd ha)).app (h1 (by omega))).app (hd hb)).app (h1 (by omega))).app (hd hc)).app ?_
  split
  · intro x hx; cases hx
  · exact (h1 (by omega)).app (sb_byt p)

end Go.Proofs.YtepcpnnnhdbjgamGreatDoor.Ent
