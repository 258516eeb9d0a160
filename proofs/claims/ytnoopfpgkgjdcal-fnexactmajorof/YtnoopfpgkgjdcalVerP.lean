/- Chapter 3: numbers and parts as the landed code tells them, against the specification's; plain facts alone. -/
import Derived.Test.YtnoopfpgkgjdcalVer3
namespace Go.Proofs.Ytnoopfpgkgjdcal.Ver
open Go.RowKit Go.Proofs.Ytnoopfpgkgjdcal.Mem Go.Proofs.Ytnoopfpgkgjdcal.Laws Go.Proofs.Ytnoopfpgkgjdcal.Bytes Go.Proofs.Ytnoopfpgkgjdcal.Sha
set_option linter.unusedVariables false
set_option linter.unusedSimpArgs false

/-- digits without a needless nought, of any length -/
def isNum (l : List Int) : Bool := l.all isd && (decide (l = [48]) || (!l.isEmpty && !decide (l.head? = some 48)))

theorem numv_acc : ∀ (l : List Int) (n : Int), l.all isd = true → 0 ≤ n → n ≤ l.foldl (fun n c => n * 10 + (c - 48)) n := by
  intro l
  induction l with
  | nil => intro n _ _; simp
  | cons c r ih =>
    intro n h hn
    simp only [List.all_cons, Bool.and_eq_true] at h
    have hc : 48 ≤ c ∧ c ≤ 57 := by simpa [isd] using h.1
    simp only [List.foldl_cons]
    have := ih (n * 10 + (c - 48)) h.2 (by omega)
    omega
theorem numv_nonneg {l : List Int} (h : l.all isd = true) : 0 ≤ numv l := by
  have := numv_acc l 0 h (by omega)
  exact this
theorem numv_take {l : List Int} (h : l.all isd = true) (k : Nat) : numv (l.take k) ≤ numv l := by
  have hsp : l = l.take k ++ l.drop k := (List.take_append_drop k l).symm
  have h1 : (l.take k).all isd = true := by rw [hsp, List.all_append, Bool.and_eq_true] at h; exact h.1
  have h2 : (l.drop k).all isd = true := by rw [hsp, List.all_append, Bool.and_eq_true] at h; exact h.2
  have := numv_acc (l.drop k) (numv (l.take k)) h2 (numv_nonneg h1)
  conv => rhs; rw [hsp]
  unfold numv at this ⊢
  rw [List.foldl_append]
  exact this

theorem isNum_number {l : List Int} (h8 : l.length ≤ 8) : isNum l = decide (0 ≤ number l) := by
  unfold isNum number digs
  cases hd : l.all isd with
  | false => simp [hd]
  | true =>
    have hv := numv_nonneg hd
    cases l with
    | nil => simp
    | cons c r =>
      by_cases hc : c = 48
      · subst hc
        cases r with
        | nil => simp [hv, hd]
        | cons x y => simp [hd]
      · simp [hd, hc, h8, hv]
        simp at h8
        split <;> omega
theorem part_imp (l : List Int) : part l = (decide (1 ≤ l.length ∧ l.length ≤ 8) && l.all psign && (!(l.all isd) || isNum l)) := by
  unfold part
  by_cases h : 1 ≤ l.length ∧ l.length ≤ 8
  · rw [isNum_number h.2]
    have hne : l.isEmpty = false := by cases l with
      | nil => simp at h
      | cons => rfl
    unfold digs
    rw [hne]
    simp [h]
  · simp [h]
theorem isd_psign {c : Int} (h : isd c = true) : psign c = true := by
  simp [isd] at h
  simp [psign, h]

/-- a number up to a greatest one -/
def upTo (l : List Int) (m : Int) : Int × Bool := if isNum l = true ∧ numv l ≤ m then (numv l, true) else (0, false)

end Go.Proofs.Ytnoopfpgkgjdcal.Ver
