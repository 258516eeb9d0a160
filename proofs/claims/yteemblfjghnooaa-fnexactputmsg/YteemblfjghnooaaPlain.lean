/- Plain lists and numbers, no program is named: numbers as groups of seven bits ('enc'), how they are read back ('dec', 'getNum'), and what the bit operations of the specification come to. -/
import Derived.WalkKit
namespace Go.Proofs.Yteemblfjghnooaa.Plain

/-- n, or the nearer of 0 and 1000000000. -/
def clampN (n : Int) : Int := if n < 0 then 0 else if 1000000000 < n then 1000000000 else n

theorem clampN_bd (n : Int) : 0 ≤ clampN n ∧ clampN n ≤ 1000000000 := by unfold clampN; split <;> (try split) <;> omega

/-- Groups of seven bits, the lowest first, 128 added but for the last; at most f groups more. -/
def encF : Nat → Nat → List Int
  | 0, n => [(n : Int)]
  | f + 1, n => if n < 128 then [(n : Int)] else ((n % 128 + 128 : Nat) : Int) :: encF f (n / 128)
def enc (n : Nat) : List Int := encF n n

theorem encF_any (f : Nat) : ∀ g n, n ≤ f → n ≤ g → encF f n = encF g n := by
  induction f with
  | zero =>
    intro g n h1 h2
    cases g with
    | zero => rfl
    | succ g => rw [encF, encF, if_pos (by omega)]
  | succ f ih =>
    intro g n h1 h2
    cases g with
    | zero => rw [encF, encF, if_pos (by omega)]
    | succ g =>
      rw [encF, encF]
      split
      · rfl
      · rw [ih g (n / 128) (by omega) (by omega)]
theorem enc_small {n : Nat} (h : n < 128) : enc n = [(n : Int)] := by
  unfold enc
  cases n with
  | zero => rfl
  | succ m => rw [encF, if_pos h]
theorem enc_step {n : Nat} (h : ¬ n < 128) : enc n = ((n % 128 + 128 : Nat) : Int) :: enc (n / 128) := by
  unfold enc
  obtain ⟨m, rfl⟩ : ∃ m, n = m + 1 := ⟨n - 1, by omega⟩
  rw [encF, if_neg h, encF_any m ((m + 1) / 128) ((m + 1) / 128) (by omega) (by omega)]

theorem enc_byteF (f : Nat) : ∀ n, n ≤ f → ∀ x ∈ enc n, 0 ≤ x ∧ x ≤ 255 := by
  induction f with
  | zero => intro n hn; rw [enc_small (by omega)]; simp; omega
  | succ f ih =>
    intro n hn
    by_cases h : n < 128
    · rw [enc_small h]; simp; omega
    · rw [enc_step h]
      intro x hx
      rcases List.mem_cons.1 hx with rfl | hx
      · omega
      · exact ih (n / 128) (by omega) x hx
theorem enc_byte (n : Nat) : ∀ x ∈ enc n, 0 ≤ x ∧ x ≤ 255 := enc_byteF n n (Nat.le_refl _)

theorem enc_len (n : Nat) : 1 ≤ (enc n).length := by
  by_cases h : n < 128
  · rw [enc_small h]; simp
  · rw [enc_step h]; simp
theorem enc_len5 (n : Nat) (h : n ≤ 1000000000) : (enc n).length ≤ 5 := by
  have s1 : ∀ n, n < 128 → (enc n).length = 1 := fun n h => by rw [enc_small h]; rfl
  have up : ∀ m c : Nat, (∀ k, k < m → (enc k).length ≤ c) → ∀ k, k < m * 128 → (enc k).length ≤ c + 1 := by
    intro m c hc k hk
    by_cases h1 : k < 128
    · rw [s1 k h1]; omega
    · rw [enc_step h1]; have := hc (k / 128) (by omega); simp; omega
  have a1 : ∀ k, k < 128 → (enc k).length ≤ 1 := fun k hk => by rw [s1 k hk]; omega
  have a2 := up _ _ a1
  have a3 := up _ _ a2
  have a4 := up _ _ a3
  have a5 := up _ _ a4
  exact a5 n (by omega)

/-- What is read from a list of bytes: k groups are behind, they came to N, the next one counts W. -/
def dec (k : Nat) (N W : Int) : List Int → Option (Int × Nat)
  | [] => none
  | c :: r => if k = 5 then none else if 128 ≤ c then dec (k + 1) (N + c % 128 * W) (W * 128) r
      else if 1000000000 < N + c % 128 * W ∨ (0 < k ∧ c % 128 = 0) then none else some (N + c % 128 * W, k + 1)

/-- The number at a place, the place behind, whether it is there. -/
def getNum (xs : List Int) (at_ : Int) : Int × Int × Bool :=
  if 0 ≤ at_ ∧ at_ < xs.length then match dec 0 0 1 (xs.drop at_.toNat) with
    | some (n, k) => (n, at_ + k, true)
    | none => (0, 0, false)
  else (0, 0, false)

theorem wraps_i64 (n : Int) (h0 : 0 ≤ n) (h1 : n < 2 ^ 62) : IntKind.i64.wrap n = n := by rw [IntKind.wrap_i64]; omega

theorem and127 {n : Int} (h0 : 0 ≤ n) (h1 : n ≤ 1000000000) : bits .and .i64 n 127 = n % 128 := bits_mask .i64 62 (by decide) wraps_i64 7 (by decide) n h0 (by omega)
theorem or128 {n : Int} (h0 : 0 ≤ n) (h1 : n < 128) : bits .or .i64 n 128 = n + 128 := by
  obtain ⟨a, rfl⟩ := Int.eq_ofNat_of_zero_le h0
  have ha : a < 2 ^ 7 := by omega
  have h := (bits_nat .i64 62 (by decide) wraps_i64 a 128 (by omega) (by decide)).2
  have h2 := Nat.two_pow_add_eq_or_of_lt ha 1
  have e : (128 : Int) = ((128 : Nat) : Int) := rfl
  rw [e, h, Nat.or_comm]
  have h3 : (128 : Nat) ||| a = 128 + a := by simpa using h2.symm
  rw [h3]; omega
/-- A number below 128^k, and groups above it, by 'or'. -/
theorem or_join {N c : Int} {k : Nat} (hk : k < 5) (h0 : 0 ≤ N) (h1 : N < 128 ^ k) (hc0 : 0 ≤ c) (hc1 : c < 128) : bits .or .i64 N (c * 2 ^ (7 * k)) = N + c * 128 ^ k := by
  obtain ⟨a, rfl⟩ := Int.eq_ofNat_of_zero_le h0
  obtain ⟨b, rfl⟩ := Int.eq_ofNat_of_zero_le hc0
  have e : (128 : Int) ^ k = 2 ^ (7 * k) := by rw [Int.pow_mul]; rfl
  have en : (128 : Nat) ^ k = 2 ^ (7 * k) := by rw [Nat.pow_mul]
  have hp : (2 : Nat) ^ (7 * k) ≤ 2 ^ 28 := Nat.pow_le_pow_right (by decide) (by omega)
  have ha : a < 2 ^ (7 * k) := by rw [e] at h1; exact_mod_cast h1
  have hb : b < 128 := by omega
  have hx : b * 2 ^ (7 * k) < 2 ^ 35 := by
    have h3 : b * 2 ^ (7 * k) ≤ 127 * 2 ^ 28 := Nat.mul_le_mul (by omega) hp
    omega
  have h := (bits_nat .i64 62 (by decide) wraps_i64 a (b * 2 ^ (7 * k)) (by omega) (by omega)).2
  have hcast : ((b : Int) * 2 ^ (7 * k)) = ((b * 2 ^ (7 * k) : Nat) : Int) := by push_cast; rfl
  rw [e]
  rw [hcast, h, Nat.or_comm, Nat.mul_comm b, ← Nat.two_pow_add_eq_or_of_lt ha b]
  push_cast; omega

end Go.Proofs.Yteemblfjghnooaa.Plain
