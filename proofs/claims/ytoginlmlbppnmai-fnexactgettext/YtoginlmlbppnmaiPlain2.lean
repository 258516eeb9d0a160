/- Plain lists and numbers: texts behind their lengths, and what is known of a number that was read. -/
import Derived.Test.YtoginlmlbppnmaiPlain
import Derived.Test.YtoginlmlbppnmaiMem
namespace Go.Proofs.Ytoginlmlbppnmai.Plain
open Go.Proofs.Ytoginlmlbppnmai.Mem

theorem dec_bd (l : List Int) : ∀ (k : Nat) (N W : Int) (n : Int) (j : Nat), 0 ≤ N → 0 ≤ W → dec k N W l = some (n, j) → 0 ≤ n ∧ n ≤ 1000000000 ∧ k < j ∧ j ≤ k + l.length := by
  induction l with
  | nil => intro k N W n j _ _ h; simp [dec] at h
  | cons c r ih =>
    intro k N W n j hN hW h
    have hp : 0 ≤ c % 128 * W := Int.mul_nonneg (by omega) hW
    rw [dec] at h
    split at h
    · simp at h
    · split at h
      · have := ih (k + 1) _ _ n j (by omega) (by omega) h
        simp only [List.length_cons]
        omega
      · split at h
        · simp at h
        · simp only [Option.some.injEq, Prod.mk.injEq] at h
          obtain ⟨rfl, rfl⟩ := h
          simp only [List.length_cons]
          omega

theorem getNum_bd {xs : List Int} {at_ n p : Int} (h : getNum xs at_ = (n, p, true)) : 0 ≤ n ∧ n ≤ 1000000000 ∧ 0 < p ∧ p ≤ xs.length ∧ 0 ≤ at_ ∧ at_ < p := by
  unfold getNum at h
  split at h
  · rename_i hr
    split at h
    · rename_i n' k hd
      simp only [Prod.mk.injEq, and_true] at h
      obtain ⟨rfl, rfl⟩ := h
      have := dec_bd _ 0 0 1 _ _ (by omega) (by omega) hd
      have hl : (xs.drop at_.toNat).length = xs.length - at_.toNat := List.length_drop
      omega
    · simp at h
  · simp at h

/-- bytes as a text -/
def u8s (xs : List Int) : List UInt8 := xs.map fun x => UInt8.ofNat x.toNat
def txt (xs : List Int) : ByteArray := ⟨(u8s xs).toArray⟩
theorem u8s_len (xs : List Int) : (u8s xs).length = xs.length := by simp [u8s]
theorem u8_back {x : Int} (h : 0 ≤ x ∧ x ≤ 255) : ((UInt8.ofNat x.toNat).toNat : Int) = x := by
  rw [UInt8.toNat_ofNat']
  omega

/-- The text at a place, the place behind, whether it is there. -/
def getText (xs : List Int) (at_ : Int) : ByteArray × Int × Bool :=
  if (getNum xs at_).2.2 = true ∧ (getNum xs at_).1 ≤ xs.length - (getNum xs at_).2.1 then
    (txt ((xs.drop (getNum xs at_).2.1.toNat).take (getNum xs at_).1.toNat), (getNum xs at_).2.1 + (getNum xs at_).1, true)
  else (⟨#[]⟩, 0, false)

theorem getText_no {xs : List Int} {at_ n p : Int} {ok : Bool} (h : getNum xs at_ = (n, p, ok)) (hb : ok = false ∨ (xs.length : Int) - p < n) : getText xs at_ = (⟨#[]⟩, 0, false) := by
  unfold getText
  rw [h, if_neg]
  rintro ⟨h1, h2⟩
  simp only at h1 h2
  rcases hb with hb | hb
  · rw [hb] at h1; simp at h1
  · omega
theorem getText_yes {xs : List Int} {at_ : Int} {n p : Nat} (h : getNum xs at_ = ((n : Int), (p : Int), true)) (hb : (n : Int) ≤ xs.length - (p : Int)) : getText xs at_ = (txt ((xs.drop p).take n), (p : Int) + (n : Int), true) := by
  unfold getText
  rw [h, if_pos ⟨rfl, hb⟩]
  rfl

theorem getText_bd {xs : List Int} {at_ p : Int} {s : ByteArray} (h : getText xs at_ = (s, p, true)) : 0 < p ∧ p ≤ xs.length ∧ s.size ≤ xs.length ∧ 0 ≤ at_ ∧ at_ < p := by
  unfold getText at h
  split at h
  · rename_i hc
    obtain ⟨n, q, ok, hg⟩ : ∃ n q ok, getNum xs at_ = (n, q, ok) := ⟨_, _, _, rfl⟩
    rw [hg] at h hc
    simp only at h hc
    obtain ⟨rfl, hc2⟩ := hc
    have hb := getNum_bd hg
    simp only [Prod.mk.injEq, and_true] at h
    obtain ⟨rfl, rfl⟩ := h
    refine ⟨by omega, by omega, ?_, by omega, by omega⟩
    show (txt _).data.size ≤ _
    simp [txt, u8s]
    omega
  · simp at h

end Go.Proofs.Ytoginlmlbppnmai.Plain
