/- A text read rune by rune: what the width of a rune says of its bytes; a split that passes over them; a world whose iterator moves on. No program is named here. -/
import Derived.Test.YtnoopfpgkgjdcalVer2
import Derived.Lib.OthersKept
import Derived.Laws.RangeAny
namespace Go.Proofs.Ytnoopfpgkgjdcal.Ver
open Go.RowKit Go.Proofs.Ytnoopfpgkgjdcal.Mem Go.Proofs.Ytnoopfpgkgjdcal.Laws Go.Proofs.Ytnoopfpgkgjdcal.Bytes Go.Proofs.Ytnoopfpgkgjdcal.Sha
set_option linter.unusedVariables false
set_option linter.unusedSimpArgs false

theorem rune_high (s : ByteArray) (pos : Nat) (h : pos < s.size) (ha : 128 ≤ (s[pos]'h).toNat) :
    128 ≤ (Utf8.decode s pos).1 ∧ 1 ≤ (Utf8.decode s pos).2 ∧ pos + (Utf8.decode s pos).2 ≤ s.size ∧ ∀ j, j < (Utf8.decode s pos).2 → 128 ≤ (s.get! (pos + j)).toNat := by
  refine ⟨(decode_high s pos h ha).1, (decode_high s pos h ha).2, ?_⟩
  have hn : ¬ (s[pos]'h).toNat < 128 := by omega
  have h0 : 128 ≤ (s.get! (pos + 0)).toNat := by rw [get_at s pos h]; exact ha
  simp only [Utf8.decode, get_at s pos h, hn, if_false]
  repeat' split
  all_goals simp_all
  all_goals first | omega | refine ⟨by omega, fun j hj => ?_⟩
  all_goals (rcases j with _ | _ | _ | _ | j <;> first | omega | (simp at h0 ⊢; omega))

theorem sb_get! (s : ByteArray) (k : Nat) (h : k < s.size) : (sb s)[k]? = some ((s.get! k).toNat : Int) := by
  rw [sb_get s k h]
  have := get_at s k h
  rw [Nat.add_zero] at this
  rw [this]

/-- no byte of a rune of several bytes is below 128 -/
theorem rune_bytes (s : ByteArray) (pos : Nat) (h : pos < s.size) (ha : 128 ≤ (s[pos]'h).toNat) (b : Int) (hb : b < 128) :
    ∀ x ∈ ((sb s).drop pos).take (Utf8.decode s pos).2, x ≠ b := by
  obtain ⟨h1, h2, h3, h4⟩ := rune_high s pos h ha
  intro x hx
  obtain ⟨j, hj⟩ := List.getElem?_of_mem hx
  rw [List.getElem?_take] at hj
  split at hj
  · rename_i hlt
    rw [List.getElem?_drop, sb_get! s (pos + j) (by omega)] at hj
    have := h4 j hlt
    simp at hj
    omega
  · simp at hj

theorem splitL_skip (b : Int) : ∀ (n : Nat) (l cur : List Int), (∀ x ∈ l.take n, x ≠ b) → splitL b cur l = splitL b (cur ++ l.take n) (l.drop n) := by
  intro n
  induction n with
  | zero => intro l cur _; simp
  | succ n ih =>
    intro l cur h
    cases l with
    | nil => simp
    | cons c r =>
      have hc : c ≠ b := h c (by simp)
      rw [splitL, if_neg hc, ih r (cur ++ [c]) (fun x hx => h x (by simp [hx]))]
      simp

theorem cur_more {l : List Int} {f k n : Nat} (hf : f ≤ k) : (l.drop f).take (k - f) ++ ((l.drop k).take n) = (l.drop f).take (k + n - f) := by
  rw [show k + n - f = (k - f) + n by omega, List.take_add, List.drop_drop, show f + (k - f) = k by omega]

theorem iter_below {B : Nat} {a w : World} (h : Below B a w) {k : Nat} (hk : B ≤ k) (s : ByteArray) (pos : Nat) : Below B a (w.iterAt k s pos) := Lib.below_iterAt h hk s pos
theorem Own.iter {w : World} {lo : Nat} {e : TypeId} {v : Value} {cs : List Value} (h : Own w lo w.heap.size e v cs) {k : Nat} (hk : k < lo) (s : ByteArray) (pos : Nat) :
    Own (w.iterAt k s pos) lo (w.iterAt k s pos).heap.size e v cs := by
  rw [Lib.iterAt_size]
  exact h.keep fun j h1 h2 => Lib.iterAt_other w k j s pos (by omega)
theorem iter_stay {w w' : World} {B k : Nat} {o : Obj} (h : w.heap[k]? = some o) (hb : Below B w w') (hk : k < B) : w'.heap[k]? = some o := by
  rw [hb.block k hk]; exact h

end Go.Proofs.Ytnoopfpgkgjdcal.Ver
