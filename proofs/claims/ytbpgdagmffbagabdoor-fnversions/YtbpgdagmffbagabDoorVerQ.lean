/- Chapter 3: a text that is read as the landed code reads it, against the specification's way; plain facts alone. -/
import Derived.Test.YtbpgdagmffbagabDoorImpN
namespace Go.Proofs.YtbpgdagmffbagabDoor.Ver
open Go.RowKit Go.Proofs.YtbpgdagmffbagabDoor.Mem Go.Proofs.YtbpgdagmffbagabDoor.Laws Go.Proofs.YtbpgdagmffbagabDoor.Bytes Go.Proofs.YtbpgdagmffbagabDoor.Sha
set_option linter.unusedVariables false
set_option linter.unusedSimpArgs false

theorem isNum_digs {l : List Int} (h : isNum l = true) : l.all isd = true ∧ l ≠ [] ∧ (1 < l.length → l.head? ≠ some 48) := by
  unfold isNum at h
  simp only [Bool.and_eq_true, Bool.or_eq_true, decide_eq_true_eq, Bool.not_eq_true', List.isEmpty_eq_false_iff, decide_eq_false_iff_not] at h
  refine ⟨h.1, ?_, ?_⟩
  · rcases h.2 with h2 | h2
    · rw [h2]; simp
    · exact h2.1
  · intro hl
    rcases h.2 with h2 | h2
    · rw [h2] at hl; simp at hl
    · exact h2.2
theorem isNum_of {l : List Int} (h : l.all isd = true) (h0 : l ≠ []) (h1 : l.head? ≠ some 48) : isNum l = true := by
  unfold isNum
  have : l.isEmpty = false := List.isEmpty_eq_false_iff.2 h0
  simp [h, this, h1]

theorem pow_one (n : Nat) : (1 : Int) ≤ 10 ^ n := by
  induction n with
  | zero => simp
  | succ n ih => rw [Int.pow_succ]; omega
theorem pow_up (m : Nat) : ∀ k : Nat, (10 : Int) ^ m ≤ 10 ^ (m + k) := by
  intro k
  induction k with
  | zero => simp
  | succ k ih =>
    have := pow_one (m + k)
    rw [← Nat.add_assoc, Int.pow_succ]
    omega
theorem pow_le {m n : Nat} (h : m ≤ n) : (10 : Int) ^ m ≤ 10 ^ n := by
  have := pow_up m (n - m)
  rw [show m + (n - m) = n by omega] at this
  exact this
theorem snoc_of {l : List Int} (h : l ≠ []) : ∃ l' c, l = l' ++ [c] := ⟨l.dropLast, l.getLast h, (List.dropLast_concat_getLast h).symm⟩
/-- digits whose first is no nought are no less than a power of ten -/
theorem numv_big : ∀ (n : Nat) (l : List Int), l.length = n + 1 → l.all isd = true → l.head? ≠ some 48 → (10 : Int) ^ n ≤ numv l := by
  intro n
  induction n with
  | zero =>
    intro l hl ha hh
    match l, hl with
    | [c], _ =>
      simp [isd] at ha
      simp at hh
      simp [numv]
      omega
  | succ n ih =>
    intro l hl ha hh
    obtain ⟨l', c, rfl⟩ := snoc_of (l := l) (by intro h; rw [h] at hl; simp at hl)
    have hl' : l'.length = n + 1 := by simp at hl; omega
    rw [List.all_append, Bool.and_eq_true] at ha
    have hc : 48 ≤ c ∧ c ≤ 57 := by simpa [isd] using ha.2
    have h2 : l'.head? ≠ some 48 := by
      cases l' with
      | nil => simp at hl'
      | cons x y => simpa using hh
    have := ih l' hl' ha.1 h2
    rw [numv_snoc, Int.pow_succ]
    omega

theorem num_upTo (l : List Int) : (inM (number l) = true ↔ (upTo l 1000000).2 = true) ∧ (inM (number l) = true → number l = (upTo l 1000000).1) := by
  by_cases hn : isNum l = true
  · obtain ⟨ha, h0, hh⟩ := isNum_digs hn
    have hp : 0 < l.length := List.length_pos_iff.2 h0
    by_cases h8 : l.length ≤ 8
    · have hnum : number l = numv l := by
        unfold number digs
        rw [if_neg]
        rw [ha, List.isEmpty_eq_false_iff.2 h0]
        rintro (h | h | h)
        · simp at h
        · omega
        · exact hh h.1 h.2
      have hv := numv_nonneg ha
      by_cases hm : numv l ≤ 1000000
      · have hu : upTo l 1000000 = (numv l, true) := by unfold upTo; rw [if_pos ⟨hn, hm⟩]
        rw [hu, hnum]
        exact ⟨⟨fun _ => rfl, fun _ => by unfold inM; simp [hv, hm]⟩, fun _ => rfl⟩
      · have hu : upTo l 1000000 = (0, false) := by unfold upTo; rw [if_neg (fun h => hm h.2)]
        rw [hu, hnum]
        have : inM (numv l) = false := by unfold inM; simp; omega
        rw [this]
        simp
    · have hb := numv_big (l.length - 1) l (by omega) ha (hh (by omega))
      have h8' : (10 : Int) ^ 8 ≤ 10 ^ (l.length - 1) := pow_le (by omega)
      have hu : upTo l 1000000 = (0, false) := by unfold upTo; rw [if_neg (fun h => by have := h.2; omega)]
      have hnum : number l = -1 := by unfold number; rw [if_pos (.inr (.inl (by omega)))]
      rw [hu, hnum]
      simp [inM]
  · have hu : upTo l 1000000 = (0, false) := by unfold upTo; rw [if_neg (fun h => hn h.1)]
    have hnum : number l < 0 := by
      by_cases h8 : l.length ≤ 8
      · have := isNum_number h8
        rw [Bool.eq_false_iff.2 hn] at this
        have := of_decide_eq_false this.symm
        omega
      · unfold number
        rw [if_pos (.inr (.inl (by omega)))]
        omega
    have : inM (number l) = false := by unfold inM; simp; omega
    rw [hu, this]
    simp

theorem digF_back : ∀ (f : Nat) (l : List Int), isNum l = true → numv l < 10 ^ (f + 1) → digF f (numv l).toNat = l := by
  intro f
  induction f with
  | zero =>
    intro l hn hv
    obtain ⟨ha, h0, hh⟩ := isNum_digs hn
    have hp : 0 < l.length := List.length_pos_iff.2 h0
    have h1 : l.length = 1 := by
      by_cases h : l.length = 1
      · exact h
      · have hb := numv_big (l.length - 1) l (by omega) ha (hh (by omega))
        have : (10 : Int) ^ 1 ≤ 10 ^ (l.length - 1) := pow_le (by omega)
        simp at hv this
        omega
    match l, h1 with
    | [c], _ =>
      have hc : 48 ≤ c ∧ c ≤ 57 := by simpa [isd] using ha
      simp [digF, numv]
      omega
  | succ f ih =>
    intro l hn hv
    obtain ⟨ha, h0, hh⟩ := isNum_digs hn
    have hp : 0 < l.length := List.length_pos_iff.2 h0
    by_cases h1 : l.length = 1
    · match l, h1 with
      | [c], _ =>
        have hc : 48 ≤ c ∧ c ≤ 57 := by simpa [isd] using ha
        have : (numv [c]).toNat < 10 := by simp [numv]; omega
        unfold digF
        rw [if_pos this]
        simp [numv]
        omega
    · obtain ⟨l', c, rfl⟩ := snoc_of h0
      have hl1 : 0 < l'.length := by simp at h1; exact List.length_pos_iff.2 h1
      have hh2 : l'.head? ≠ some 48 := by
        have := hh (by simp; omega)
        cases l' with
        | nil => simp at hl1
        | cons x y => simpa using this
      rw [List.all_append, Bool.and_eq_true] at ha
      have hc : 48 ≤ c ∧ c ≤ 57 := by simpa [isd] using ha.2
      have hn' : isNum l' = true := isNum_of ha.1 (List.length_pos_iff.1 hl1) hh2
      have hb := numv_big (l'.length - 1) l' (by omega) ha.1 hh2
      have hpos : (1 : Int) ≤ 10 ^ (l'.length - 1) := pow_one _
      have hs := numv_snoc l' c
      have hv' : numv l' < 10 ^ (f + 1) := by rw [hs, Int.pow_succ] at hv; omega
      have hr := ih l' hn' hv'
      rw [hs]
      have e1 : (numv l' * 10 + (c - 48)).toNat / 10 = (numv l').toNat := by omega
      have e2 : (((numv l' * 10 + (c - 48)).toNat % 10 : Nat) : Int) = c - 48 := by omega
      unfold digF
      rw [if_neg (by omega), e1, e2, hr]
      simp
      omega

/-- parts with a sign between -/
def join (b : Int) : List (List Int) → List Int
  | [] => []
  | [x] => x
  | x :: y :: r => x ++ [b] ++ join b (y :: r)
theorem join_split (b : Int) : ∀ (l cur : List Int), join b (splitL b cur l) = cur ++ l := by
  intro l
  induction l with
  | nil => intro cur; simp [splitL, join]
  | cons c r ih =>
    intro cur
    unfold splitL
    split
    · rename_i h
      have hp := splitL_pos b r []
      have hi := ih []
      cases hs : splitL b [] r with
      | nil => rw [hs] at hp; simp at hp
      | cons x y =>
        rw [hs] at hi
        rw [join, hi, h]
        simp
    · rw [ih]; simp

theorem eqT_iff (a b : ByteArray) : eqT a b = true ↔ a = b := by
  unfold eqT
  rw [beq_iff_eq, ByteArray.toList_eq, ByteArray.toList_eq]
  constructor
  · intro h; apply ByteArray.ext; apply Array.ext'; exact h
  · rintro rfl; rfl
theorem parse3_no {s u : ByteArray} (pr : ByteArray) (h : (splitT 46 u).length ≠ 3) : parse3 s u pr = ((0, 0, 0, ⟨#[]⟩), false) := by
  unfold parse3
  match splitT 46 u, h with
  | [], _ => rfl
  | [_], _ => rfl
  | [_, _], _ => rfl
  | [_, _, _], h => exact absurd rfl h
  | _ :: _ :: _ :: _ :: _, _ => rfl
theorem parse3_yes {s u pr x y z : ByteArray} (h : splitT 46 u = [x, y, z]) : parse3 s u pr = if okV (number (sb x)) (number (sb y)) (number (sb z)) pr = true ∧ eqT (Plain.txt (verText (number (sb x)) (number (sb y)) (number (sb z)) pr)) s = true then ((number (sb x), number (sb y), number (sb z), pr), true) else ((0, 0, 0, ⟨#[]⟩), false) := by
  unfold parse3
  rw [h]
def outQ : Option (Int × Int × Int × ByteArray) → (Int × Int × Int × ByteArray) × Bool
  | none => ((0, 0, 0, ⟨#[]⟩), false)
  | some q => (q, true)
theorem digits_back {l : List Int} (h : inM (number l) = true) : digF 6 (number l).toNat = l := by
  obtain ⟨h1, h2⟩ := num_upTo l
  have h3 := h1.1 h
  rw [h2 h]
  unfold upTo at h3 ⊢
  split at h3
  · rename_i hc
    rw [if_pos hc]
    exact digF_back 6 l hc.1 (by have := hc.2; simp; omega)
  · simp at h3
theorem read_core (s u pr : ByteArray) (d : Bool) (hS : sb s = [118] ++ sb u ++ (if d = true then [45] ++ sb pr else [])) (hd : d = false → pr.size = 0) :
    outQ (if ¬ (d = true ∧ pr.size = 0) then read3 (splitT 46 u) pr else none) = parse3 s u pr := by
  by_cases h3 : (splitT 46 u).length = 3
  · obtain ⟨x, y, z, hT⟩ := three h3
    have hu : sb u = sb x ++ [46] ++ (sb y ++ [46] ++ sb z) := by
      have h1 := splitT_sb 46 u
      rw [hT] at h1
      have h2 := join_split 46 (sb u) []
      unfold split at h1
      rw [← h1] at h2
      simpa [join] using h2.symm
    rw [parse3_yes hT, hT, read3_three]
    obtain ⟨a1, a2⟩ := num_upTo (sb x)
    obtain ⟨b1, b2⟩ := num_upTo (sb y)
    obtain ⟨c1, c2⟩ := num_upTo (sb z)
    by_cases hok : okV (number (sb x)) (number (sb y)) (number (sb z)) pr = true
    · have hk := hok
      unfold okV at hk
      simp only [Bool.and_eq_true] at hk
      obtain ⟨⟨⟨k1, k2⟩, k3⟩, _⟩ := hk
      have hr : ((upTo (sb x) 1000000).2 = true ∧ (upTo (sb y) 1000000).2 = true ∧ (upTo (sb z) 1000000).2 = true ∧ okV (upTo (sb x) 1000000).1 (upTo (sb y) 1000000).1 (upTo (sb z) 1000000).1 pr = true) := by
        refine ⟨a1.1 k1, b1.1 k2, c1.1 k3, ?_⟩
        rw [← a2 k1, ← b2 k2, ← c2 k3]
        exact hok
      rw [if_pos hr, ← a2 k1, ← b2 k2, ← c2 k3]
      have hvt : verText (number (sb x)) (number (sb y)) (number (sb z)) pr = [118] ++ sb u ++ (if pr.size = 0 then [] else [45] ++ sb pr) := by
        unfold verText
        rw [if_pos hok]
        unfold vt
        rw [digits_back k1, digits_back k2, digits_back k3, hu]
        simp [List.append_assoc]
      rw [hvt]
      cases d with
      | false =>
        have h0 := hd rfl
        have he : Plain.txt ([118] ++ sb u ++ (if pr.size = 0 then [] else [45] ++ sb pr)) = s := by
          have hs' : [118] ++ sb u ++ (if pr.size = 0 then [] else [45] ++ sb pr) = sb s := by rw [hS]; simp [h0]
          rw [hs', txt_sbv]
        rw [he, if_pos (by simp), if_pos ⟨hok, (eqT_iff s s).2 rfl⟩]
        rfl
      | true =>
        by_cases h0 : pr.size = 0
        · have hne : ¬ eqT (Plain.txt ([118] ++ sb u ++ (if pr.size = 0 then [] else [45] ++ sb pr))) s = true := by
            intro he
            have he := (eqT_iff _ _).1 he
            have h5 : (Plain.txt ([118] ++ sb u ++ (if pr.size = 0 then [] else [45] ++ sb pr))).size = s.size := by rw [he]
            rw [txt_sizev, ← sb_len s, hS] at h5
            simp [h0] at h5
          rw [if_neg (by simp [h0]), if_neg (fun h => hne h.2)]
          rfl
        · have he : Plain.txt ([118] ++ sb u ++ (if pr.size = 0 then [] else [45] ++ sb pr)) = s := by
            have hs' : [118] ++ sb u ++ (if pr.size = 0 then [] else [45] ++ sb pr) = sb s := by rw [hS]; simp [h0]
            rw [hs', txt_sbv]
          rw [he, if_pos (by simp [h0]), if_pos ⟨hok, (eqT_iff s s).2 rfl⟩]
          rfl
    · have hr : ¬ ((upTo (sb x) 1000000).2 = true ∧ (upTo (sb y) 1000000).2 = true ∧ (upTo (sb z) 1000000).2 = true ∧ okV (upTo (sb x) 1000000).1 (upTo (sb y) 1000000).1 (upTo (sb z) 1000000).1 pr = true) := by
        rintro ⟨h1, h2, h3, h4⟩
        rw [← a2 (a1.2 h1), ← b2 (b1.2 h2), ← c2 (c1.2 h3)] at h4
        exact hok h4
      rw [if_neg hr, ite_self, if_neg (fun h => hok h.1)]
      rfl
  · rw [parse3_no pr h3, read3_no pr h3]
    split <;> rfl

theorem sb_extract (s : ByteArray) (f k : Nat) (hk : k ≤ s.size) : sb (s.extract f k) = ((sb s).drop f).take (k - f) := by
  rw [ext_txt]
  refine sb_txtv fun x hx => sb_byt s x ?_
  exact List.mem_of_mem_drop (List.mem_of_mem_take hx)

theorem parse_same (s : ByteArray) : parseI s = parseV s := by
  have hout : parseI s = outQ (readI s) := by unfold parseI outQ; cases readI s <;> rfl
  rw [hout]
  unfold readI parseV
  by_cases hv : (sb s).head? = some 118
  · have hva : vAt s = true := by unfold vAt; simp [hv]
    have hvo : vOff s = s.extract 1 s.size := by unfold vOff; rw [if_pos hva]
    rw [if_pos hv, hvo, hva]
    have hS : sb s = [118] ++ sb (s.extract 1 s.size) := by
      cases hb : sb s with
      | nil => rw [hb] at hv; simp at hv
      | cons x y =>
        rw [hb] at hv
        simp at hv
        have hl := sb_len s
        rw [hb] at hl
        simp at hl
        rw [sb_extract s 1 s.size (Nat.le_refl _), hb, hv]
        simp
        rw [List.take_of_length_le (by omega)]
    obtain ⟨r, hr⟩ : ∃ r, r = s.extract 1 s.size := ⟨_, rfl⟩
    rw [← hr] at hS ⊢
    clear hr hvo
    cases hd : (sb r).findIdx? (fun c => c == 45) with
    | none =>
      have e1 : dash r = -1 := by unfold dash; rw [hd]
      have e2 : cut r = (r, ⟨#[]⟩) := by unfold cut; rw [hd]
      rw [e1, e2]
      have h := read_core s r ⟨#[]⟩ false (by simpa using hS) (fun _ => rfl)
      simpa using h
    | some i =>
      have e1 : dash r = (i : Int) := by unfold dash; rw [hd]
      have e2 : cut r = (r.extract 0 i, r.extract (i + 1) r.size) := by unfold cut; rw [hd]
      have hi := dash_some hd
      rw [e1, e2]
      have hc : (sb r)[i]? = some 45 := by
        obtain ⟨h1, h2, _⟩ := List.findIdx?_eq_some_iff_getElem.1 hd
        rw [List.getElem?_eq_getElem h1]
        simpa using h2
      have hsp : sb r = sb (r.extract 0 i) ++ ([45] ++ sb (r.extract (i + 1) r.size)) := by
        rw [sb_extract r 0 i (by omega), sb_extract r (i + 1) r.size (Nat.le_refl _)]
        conv => lhs; rw [← List.take_append_drop i (sb r), drop_consI hc]
        simp
        rw [List.take_of_length_le (by simp [sb_len])]
      have h := read_core s (r.extract 0 i) (r.extract (i + 1) r.size) true (by rw [hS, hsp]; simp) (fun h => by cases h)
      simpa using h
  · have hva : vAt s = false := by unfold vAt; simp [hv]
    rw [if_neg hv, if_neg (by rw [hva]; simp)]
    rfl

end Go.Proofs.YtbpgdagmffbagabDoor.Ver
