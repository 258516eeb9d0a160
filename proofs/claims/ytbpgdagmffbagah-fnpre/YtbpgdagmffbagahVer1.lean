/- Chapter 3, the specification's side: digits, numbers, parts of a text, as plain functions of lists of bytes. -/
import Derived.Test.YtbpgdagmffbagahSha
namespace Go.Proofs.Ytbpgdagmffbagah.Ver
open Go.RowKit Go.Proofs.Ytbpgdagmffbagah.Mem Go.Proofs.Ytbpgdagmffbagah.Laws Go.Proofs.Ytbpgdagmffbagah.Bytes Go.Proofs.Ytbpgdagmffbagah.Sha
set_option linter.unusedVariables false
set_option linter.unusedSimpArgs false

/-- a digit -/
def isd (c : Int) : Bool := decide (48 ≤ c ∧ c ≤ 57)
/-- digits alone, and one at least -/
def digs (l : List Int) : Bool := l.all isd && !l.isEmpty
def numv (l : List Int) : Int := l.foldl (fun n c => n * 10 + (c - 48)) 0
/-- a number of at most eight digits without a needless nought; below 0: it is none -/
def number (l : List Int) : Int := if digs l = false ∨ 8 < l.length ∨ (1 < l.length ∧ l.head? = some 48) then -1 else numv l
/-- a sign of a part -/
def psign (c : Int) : Bool := decide (97 ≤ c ∧ c ≤ 122) || decide (65 ≤ c ∧ c ≤ 90) || decide (48 ≤ c ∧ c ≤ 57) || decide (c = 45)
def part (l : List Int) : Bool := l.all psign && decide (1 ≤ l.length ∧ l.length ≤ 8) && (!digs l || decide (0 ≤ number l))

theorem all_take {p : Int → Bool} {l : List Int} {k : Nat} {c : Int} (h : (l.take k).all p = true) (hc : l[k]? = some c) (hp : p c = true) : (l.take (k + 1)).all p = true := by
  rw [take_snoc hc, List.all_append, h]
  simp [hp]
theorem all_bad {p : Int → Bool} {l : List Int} {k : Nat} {c : Int} (hc : l[k]? = some c) (hp : p c = false) : l.all p = false := by
  rw [List.all_eq_false]
  exact ⟨c, List.mem_of_getElem? hc, by simp [hp]⟩

theorem loop_nil (s : ByteArray) (h : s.size = 0) : s.toList = [] := by
  unfold ByteArray.toList
  unfold ByteArray.toList.loop
  simp [h]
theorem loop_ge (s : ByteArray) (n : Nat) : ∀ i r, s.size - i = n → r ≠ [] → ByteArray.toList.loop s i r ≠ [] := by
  induction n with
  | zero => intro i r h hr; unfold ByteArray.toList.loop; rw [if_neg (by omega)]; simpa using hr
  | succ n ih => intro i r h hr; unfold ByteArray.toList.loop; rw [if_pos (by omega)]; exact ih _ _ (by omega) (by simp)
theorem loop_pos (s : ByteArray) (h : 0 < s.size) : s.toList ≠ [] := by
  unfold ByteArray.toList
  unfold ByteArray.toList.loop
  rw [if_pos (by omega)]
  exact loop_ge s _ _ _ rfl (by simp)
theorem toList_empty (s : ByteArray) : s.toList.isEmpty = decide (s.size = 0) := by
  by_cases h : s.size = 0
  · rw [loop_nil s h]; simp [h]
  · have := loop_pos s (by omega)
    rw [List.isEmpty_eq_false_iff.2 this]
    simp [h]
theorem sb_empty (s : ByteArray) : (sb s).isEmpty = decide (s.size = 0) := by
  have h := sb_len s
  cases hb : sb s with
  | nil => rw [hb] at h; simp at h; simp [← h]
  | cons x r =>
    rw [hb] at h
    simp only [List.length_cons] at h
    rw [decide_eq_false (by omega)]
    rfl

theorem or4 {b1 b2 b3 : Bool} {p : Prop} [Decidable p] (h : false = (b1 || b2 || b3 || decide p)) : b1 = false ∧ b2 = false ∧ b3 = false ∧ ¬ p := by
  cases b1 <;> cases b2 <;> cases b3 <;> simp_all

theorem numv_snoc (l : List Int) (c : Int) : numv (l ++ [c]) = numv l * 10 + (c - 48) := by simp [numv]
theorem numv_bd (n : Nat) : ∀ l : List Int, l.length ≤ n → l.all isd = true → 0 ≤ numv l ∧ numv l < 10 ^ n := by
  induction n with
  | zero => intro l h _; have : l = [] := List.eq_nil_of_length_eq_zero (by omega); subst this; simp [numv]
  | succ n ih =>
    intro l h ha
    rcases List.eq_nil_or_concat l with rfl | ⟨r, c, rfl⟩
    · have : (0 : Int) < 10 ^ (n + 1) := Int.pow_pos (by decide)
      exact ⟨by simp [numv], by simpa [numv] using this⟩
    · rw [List.concat_eq_append] at *
      rw [List.all_append, Bool.and_eq_true] at ha
      have hr := ih r (by simp at h; omega) ha.1
      have hc : 48 ≤ c ∧ c ≤ 57 := by have := ha.2; simp [isd] at this; exact this
      rw [numv_snoc, Int.pow_succ]
      omega

end Go.Proofs.Ytbpgdagmffbagah.Ver
