/- Chapter 9: tiles, plain facts alone. -/
import Derived.Test.YthcmkpdmdkpebaaDoorTr1
namespace Go.Proofs.YthcmkpdmdkpebaaDoor.Ti
open Go.RowKit Go.Proofs.YthcmkpdmdkpebaaDoor.Mem Go.Proofs.YthcmkpdmdkpebaaDoor.Laws Go.Proofs.YthcmkpdmdkpebaaDoor.Sha Go.Proofs.YthcmkpdmdkpebaaDoor.Tr
set_option linter.unusedVariables false
set_option linter.unusedSimpArgs false

/-- the k-th node over s texts -/
def nd (l : List ByteArray) (s k : Nat) : ByteArray := root ((l.drop (k * s)).take s)
/-- nodes from the k-th on, n at most, as many as are whole -/
def tl (l : List ByteArray) (s : Nat) : Nat → Nat → List ByteArray
  | 0, _ => []
  | n + 1, k => if (k + 1) * s ≤ l.length then nd l s k :: tl l s n (k + 1) else []
/-- how many tiles of n texts -/
def cnt (n s : Nat) : Nat := (n / s + 3) / 4
theorem whole_iff {n s k : Nat} (hs : 1 ≤ s) : (k + 1) * s ≤ n ↔ k < n / s := by
  rw [Nat.lt_iff_add_one_le, Nat.le_div_iff_mul_le (by omega)]
theorem tl_len (l : List ByteArray) {s : Nat} (hs : 1 ≤ s) : ∀ n k, (tl l s n k).length = min n (l.length / s - k) := by
  intro n
  induction n with
  | zero => intro k; simp [tl]
  | succ n ih =>
    intro k
    rw [tl]
    by_cases h : (k + 1) * s ≤ l.length
    · rw [if_pos h, List.length_cons, ih]
      have := (whole_iff hs).1 h
      omega
    · rw [if_neg h]
      have := mt (whole_iff hs).2 h
      simp
      omega
theorem tl_get (l : List ByteArray) {s : Nat} (hs : 1 ≤ s) : ∀ n k j, j < n → k + j < l.length / s → (tl l s n k)[j]? = some (nd l s (k + j)) := by
  intro n
  induction n with
  | zero => intro k j h; omega
  | succ n ih =>
    intro k j h1 h2
    rw [tl, if_pos ((whole_iff hs).2 (by omega))]
    cases j with
    | zero => simp
    | succ j => rw [List.getElem?_cons_succ, ih (k + 1) j (by omega) (by omega)]; congr 2; omega
theorem nd_size (l : List ByteArray) (s k : Nat) : (nd l s k).size = 32 := root_size _
theorem tl_size (l : List ByteArray) (s : Nat) : ∀ n k, ∀ x ∈ tl l s n k, x.size = 32 := by
  intro n
  induction n with
  | zero => intro k x hx; simp [tl] at hx
  | succ n ih =>
    intro k x hx
    rw [tl] at hx
    split at hx
    · rcases List.mem_cons.1 hx with rfl | hx
      · exact nd_size l s k
      · exact ih (k + 1) x hx
    · cases hx
/-- what is half of a doubled power of 2 -/
theorem half_pow {p : Nat} (h : Pow p) : half (2 * p) = p := by
  have hp : 1 ≤ p := by obtain ⟨e, rfl⟩ := h; exact Nat.one_le_two_pow
  obtain ⟨a, b, c⟩ := half_ok (n := 2 * p) (by omega)
  exact pow_one a h b c (by omega) (Nat.le_refl _)
/-- a node over twice as many texts -/
theorem nd_two (l : List ByteArray) {s k : Nat} (hp : Pow s) (h : (k + 1) * (2 * s) ≤ l.length) : nd l (2 * s) k = nodeH (nd l s (2 * k)) (nd l s (2 * k + 1)) := by
  have hs : 1 ≤ s := by obtain ⟨e, rfl⟩ := hp; exact Nat.one_le_two_pow
  have hm : (k + 1) * (2 * s) = k * (2 * s) + 2 * s := by rw [Nat.add_mul, Nat.one_mul]
  have hl : ((l.drop (k * (2 * s))).take (2 * s)).length = 2 * s := by
    rw [List.length_take, List.length_drop]
    omega
  unfold nd
  rw [root_more (by rw [hl]; omega), hl, half_pow hp]
  have e1 : k * (2 * s) = 2 * k * s := by rw [← Nat.mul_assoc, Nat.mul_comm k 2]
  have e2 : (2 * k + 1) * s = 2 * k * s + s := by rw [Nat.add_mul, Nat.one_mul]
  congr 1
  · rw [List.take_take, e1]
    congr 2
    omega
  · rw [List.drop_take, List.drop_drop, e1, e2]
    congr 2
    omega
theorem pow_two {s : Nat} (h : Pow s) : Pow (2 * s) := by obtain ⟨e, rfl⟩ := h; exact ⟨e + 1, by rw [Nat.pow_succ]; omega⟩
theorem nd_four (l : List ByteArray) {s k : Nat} (hp : Pow s) (h : (k + 1) * (4 * s) ≤ l.length) : nd l (4 * s) k = nodeH (nodeH (nd l s (4 * k)) (nd l s (4 * k + 1))) (nodeH (nd l s (4 * k + 2)) (nd l s (4 * k + 3))) := by
  have e4 : 4 * s = 2 * (2 * s) := by omega
  have hm : (k + 1) * (4 * s) = 4 * (k * s) + 4 * s := by rw [Nat.add_mul, Nat.one_mul, Nat.mul_left_comm]
  rw [e4, nd_two l (pow_two hp) (by rw [← e4]; exact h)]
  have a1 : (2 * k + 1) * (2 * s) = 4 * (k * s) + 2 * s := by rw [Nat.add_mul, Nat.one_mul, Nat.mul_mul_mul_comm]
  have a2 : (2 * k + 1 + 1) * (2 * s) = 4 * (k * s) + 4 * s := by rw [Nat.add_mul, a1]; omega
  rw [nd_two l hp (by omega), nd_two l hp (by omega)]
  congr 2 <;> congr 1 <;> omega

/-- the root over one to four digests -/
def troot : List ByteArray → ByteArray
  | [a] => a
  | [a, b] => nodeH a b
  | [a, b, c] => nodeH (nodeH a b) c
  | [a, b, c, d] => nodeH (nodeH a b) (nodeH c d)
  | _ => ⟨#[]⟩
/-- a whole tile's root is the node above it -/
theorem tile_up (l : List ByteArray) {s i : Nat} (hp : Pow s) (h4 : (tl l s 4 (4 * i)).length = 4) : troot (tl l s 4 (4 * i)) = nd l (4 * s) i := by
  have hs : 1 ≤ s := by obtain ⟨e, rfl⟩ := hp; exact Nat.one_le_two_pow
  rw [tl_len l hs] at h4
  have hk : 4 * i + 3 < l.length / s := by omega
  have h3 := (whole_iff (n := l.length) (k := 4 * i + 3) hs).2 hk
  have hm : (4 * i + 3 + 1) * s = (i + 1) * (4 * s) := by
    rw [Nat.add_mul i, Nat.one_mul, Nat.mul_left_comm i 4 s, Nat.add_mul, Nat.add_mul, Nat.mul_assoc]
    omega
  have e : tl l s 4 (4 * i) = [nd l s (4 * i), nd l s (4 * i + 1), nd l s (4 * i + 2), nd l s (4 * i + 3)] := by
    have w0 := (whole_iff (n := l.length) (k := 4 * i) hs).2 (by omega)
    have w1 := (whole_iff (n := l.length) (k := 4 * i + 1) hs).2 (by omega)
    have w2 := (whole_iff (n := l.length) (k := 4 * i + 1 + 1) hs).2 (by omega)
    have w3 := (whole_iff (n := l.length) (k := 4 * i + 1 + 1 + 1) hs).2 (by omega)
    rw [tl, if_pos w0, tl, if_pos w1, tl, if_pos w2, tl, if_pos w3, tl]
  rw [e, nd_four l hp (by rw [← hm]; exact h3)]
  rfl
theorem troot_size {t : List ByteArray} (h1 : 1 ≤ t.length) (h4 : t.length ≤ 4) (hz : ∀ x ∈ t, x.size = 32) : (troot t).size = 32 := by
  match t, h1, h4, hz with
  | [a], _, _, hz => exact hz a (by simp)
  | [a, b], _, _, _ => exact nodeH_size _ _
  | [a, b, c], _, _, _ => exact nodeH_size _ _
  | [a, b, c, d], _, _, _ => exact nodeH_size _ _
  | _ :: _ :: _ :: _ :: _ :: _, _, h4, _ => simp at h4
/-- what TileCount, TileOf and TileRoot answer -/
def tileCount (n level : Int) : Nat := if (0 ≤ n ∧ n ≤ 200) ∧ 0 ≤ level ∧ level ≤ 3 then cnt n.toNat (4 ^ level.toNat) else 0
def tileOf (l : List ByteArray) (level i : Int) : List ByteArray := if 0 ≤ i ∧ i ≤ (tileCount (l.length : Int) level : Int) - 1 then tl l (4 ^ level.toNat) 4 (4 * i.toNat) else []
def tileRoot (t : List ByteArray) : ByteArray := if 1 ≤ t.length ∧ t.length ≤ 4 then troot t else ⟨#[]⟩
theorem tileCount_le (n level : Int) : tileCount n level ≤ 50 := by
  unfold tileCount cnt
  split
  · rename_i h
    have : n.toNat / 4 ^ level.toNat ≤ n.toNat := Nat.div_le_self _ _
    omega
  · omega
theorem tileOf_len (l : List ByteArray) (level i : Int) : (tileOf l level i).length ≤ 4 := by
  unfold tileOf
  split
  · rw [tl_len l (Nat.one_le_pow _ _ (by omega))]; omega
  · simp

end Go.Proofs.YthcmkpdmdkpebaaDoor.Ti
