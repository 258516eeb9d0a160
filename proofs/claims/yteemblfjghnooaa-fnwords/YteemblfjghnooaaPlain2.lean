/- Plain lists and numbers: texts behind their lengths, and what is known of a number that was read. -/
import Derived.Test.YteemblfjghnooaaPlain
import Derived.Test.YteemblfjghnooaaMem
namespace Go.Proofs.Yteemblfjghnooaa.Plain
open Go.Proofs.Yteemblfjghnooaa.Mem

theorem dec_bd (l : List Int) : ∀ (k : Nat) (N W : Int) (n : Int) (j : Nat), 0 ≤ N → 0 ≤ W → dec k N W l = some (n, j) → 0 ≤ n ∧ n ≤ 1000000000 ∧ k < j ∧ j ≤ k + l.length := by
  induction l with
  | nil => intro k N W n j _ _ h; simp [dec] at h
  | cons c r ih =>
    intro k N W n j hN hW h
    have hp : 0 ≤ c % 128 * W := Int.mul_nonneg (by omega) hW
    rw [dec] at h
    split at h
    · simp at h
    · split at h
      · have := ih (k + 1) _ _ n j (by omega) (by omega) h
        simp only [List.length_cons]
        omega
      · split at h
        · simp at h
        · simp only [Option.some.injEq, Prod.mk.injEq] at h
          obtain ⟨rfl, rfl⟩ := h
          simp only [List.length_cons]
          omega

theorem getNum_bd {xs : List Int} {at_ n p : Int} (h : getNum xs at_ = (n, p, true)) : 0 ≤ n ∧ n ≤ 1000000000 ∧ 0 < p ∧ p ≤ xs.length ∧ 0 ≤ at_ ∧ at_ < p := by
  unfold getNum at h
  split at h
  · rename_i hr
    split at h
    · rename_i n' k hd
      simp only [Prod.mk.injEq, and_true] at h
      obtain ⟨rfl, rfl⟩ := h
      have := dec_bd _ 0 0 1 _ _ (by omega) (by omega) hd
      have hl : (xs.drop at_.toNat).length = xs.length - at_.toNat := List.length_drop
      omega
    · simp at h
  · simp at h

/-- bytes as a text -/
def u8s (xs : List Int) : List UInt8 := xs.map fun x => UInt8.ofNat x.toNat
def txt (xs : List Int) : ByteArray := ⟨(u8s xs).toArray⟩
theorem u8s_len (xs : List Int) : (u8s xs).length = xs.length := by simp [u8s]
theorem u8_back {x : Int} (h : 0 ≤ x ∧ x ≤ 255) : ((UInt8.ofNat x.toNat).toNat : Int) = x := by
  rw [UInt8.toNat_ofNat']
  omega

/-- The text at a place, the place behind, whether it is there. -/
def getText (xs : List Int) (at_ : Int) : ByteArray × Int × Bool :=
  if (getNum xs at_).2.2 = true ∧ (getNum xs at_).1 ≤ xs.length - (getNum xs at_).2.1 then
    (txt ((xs.drop (getNum xs at_).2.1.toNat).take (getNum xs at_).1.toNat), (getNum xs at_).2.1 + (getNum xs at_).1, true)
  else (⟨#[]⟩, 0, false)

theorem getText_no {xs : List Int} {at_ n p : Int} {ok : Bool} (h : getNum xs at_ = (n, p, ok)) (hb : ok = false ∨ (xs.length : Int) - p < n) : getText xs at_ = (⟨#[]⟩, 0, false) := by
  unfold getText
  rw [h, if_neg]
  rintro ⟨h1, h2⟩
  simp only at h1 h2
  rcases hb with hb | hb
  · rw [hb] at h1; simp at h1
  · omega
theorem getText_yes {xs : List Int} {at_ : Int} {n p : Nat} (h : getNum xs at_ = ((n : Int), (p : Int), true)) (hb : (n : Int) ≤ xs.length - (p : Int)) : getText xs at_ = (txt ((xs.drop p).take n), (p : Int) + (n : Int), true) := by
  unfold getText
  rw [h, if_pos ⟨rfl, hb⟩]
  rfl

theorem getText_bd {xs : List Int} {at_ p : Int} {s : ByteArray} (h : getText xs at_ = (s, p, true)) : 0 < p ∧ p ≤ xs.length ∧ s.size ≤ xs.length ∧ 0 ≤ at_ ∧ at_ < p := by
  unfold getText at h
  split at h
  · rename_i hc
    obtain ⟨n, q, ok, hg⟩ : ∃ n q ok, getNum xs at_ = (n, q, ok) := ⟨_, _, _, rfl⟩
    rw [hg] at h hc
    simp only at h hc
    obtain ⟨rfl, hc2⟩ := hc
    have hb := getNum_bd hg
    simp only [Prod.mk.injEq, and_true] at h
    obtain ⟨rfl, rfl⟩ := h
    refine ⟨by omega, by omega, ?_, by omega, by omega⟩
    show (txt _).data.size ≤ _
    simp [txt, u8s]
    omega
  · simp at h

/-- n texts, one behind the other, from a place on; and the place behind. -/
def rd (xs : List Int) : Nat → Int → Option (List ByteArray × Int)
  | 0, p => some ([], p)
  | n + 1, p => if (getText xs p).2.2 = true then (rd xs n (getText xs p).2.1).map fun r => ((getText xs p).1 :: r.1, r.2) else none

theorem rd_no {xs : List Int} {n : Nat} {p q : Int} {s : ByteArray} (h : getText xs p = (s, q, false)) : rd xs (n + 1) p = none := by
  rw [rd, h]; rfl
theorem rd_yes {xs : List Int} {n : Nat} {p q : Int} {s : ByteArray} (h : getText xs p = (s, q, true)) : rd xs (n + 1) p = (rd xs n q).map fun r => (s :: r.1, r.2) := by
  rw [rd, h]; rfl

/-- The texts at a place (at most 200), the place behind, whether they are there. -/
def getTexts (xs : List Int) (at_ : Int) : List ByteArray × Int × Bool :=
  if (getNum xs at_).2.2 = true ∧ (getNum xs at_).1 ≤ 200 then
    match rd xs (getNum xs at_).1.toNat (getNum xs at_).2.1 with
    | some (l, q) => (l, q, true)
    | none => ([], 0, false)
  else ([], 0, false)

theorem getTexts_no {xs : List Int} {at_ n p : Int} {ok : Bool} (h : getNum xs at_ = (n, p, ok)) (hb : ok = false ∨ 200 < n) : getTexts xs at_ = ([], 0, false) := by
  unfold getTexts
  rw [h, if_neg]
  rintro ⟨h1, h2⟩
  simp only at h1 h2
  rcases hb with hb | hb
  · rw [hb] at h1; simp at h1
  · omega
theorem getTexts_none {xs : List Int} {at_ p : Int} {n : Nat} (h : getNum xs at_ = ((n : Int), p, true)) (hn : n ≤ 200) (hr : rd xs n p = none) : getTexts xs at_ = ([], 0, false) := by
  unfold getTexts
  rw [h, if_pos ⟨rfl, by simp only; omega⟩]
  simp [hr]
theorem getTexts_some {xs : List Int} {at_ p q : Int} {n : Nat} {l : List ByteArray} (h : getNum xs at_ = ((n : Int), p, true)) (hn : n ≤ 200) (hr : rd xs n p = some (l, q)) : getTexts xs at_ = (l, q, true) := by
  unfold getTexts
  rw [h, if_pos ⟨rfl, by simp only; omega⟩]
  simp [hr]

theorem rd_len (xs : List Int) (n : Nat) : ∀ (p q : Int) (l : List ByteArray), rd xs n p = some (l, q) → l.length = n := by
  induction n with
  | zero => intro p q l h; simp [rd] at h; rw [h.1]; rfl
  | succ n ih =>
    intro p q l h
    rw [rd] at h
    split at h
    · rw [Option.map_eq_some_iff] at h
      obtain ⟨⟨l2, q2⟩, h1, h2⟩ := h
      simp only [Prod.mk.injEq] at h2
      rw [← h2.1, List.length_cons, ih _ _ _ h1]
    · simp at h
theorem getTexts_len (xs : List Int) (at_ : Int) : (getTexts xs at_).1.length ≤ 200 := by
  unfold getTexts
  split
  · rename_i hc
    split
    · rename_i l q hr
      have := rd_len xs _ _ _ _ hr
      simp only
      omega
    · simp
  · simp

end Go.Proofs.Yteemblfjghnooaa.Plain
