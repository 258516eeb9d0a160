/- Chapter 3, the specification's side: which of two versions is less. -/
import Derived.Test.YtnoopfpgkgjdcalVer5
import Derived.Deep.QuietTactic
namespace Go.Proofs.Ytnoopfpgkgjdcal.Ver
set_option linter.unusedVariables false
set_option linter.unusedSimpArgs false
open Go.RowKit Go.Proofs.Ytnoopfpgkgjdcal.Mem Go.Proofs.Ytnoopfpgkgjdcal.Laws Go.Proofs.Ytnoopfpgkgjdcal.Bytes Go.Proofs.Ytnoopfpgkgjdcal.Sha

/-- two texts: byte by byte less; the same -/
def ltT (a b : ByteArray) : Bool := Op.bytesLess a.toList b.toList
def eqT (a b : ByteArray) : Bool := a.toList == b.toList
def lessPart (a b : ByteArray) : Bool :=
  if 0 ≤ number (sb a) then (if 0 ≤ number (sb b) then decide (number (sb a) < number (sb b)) else true) else (if 0 ≤ number (sb b) then false else ltT a b)
def lessL : List ByteArray → List ByteArray → Bool
  | [], [] => false
  | [], _ :: _ => true
  | _ :: _, [] => false
  | t :: r, u :: q => if eqT t u = true then lessL r q else lessPart t u
def lessPre (a b : ByteArray) : Bool := lessL (splitT 46 a) (splitT 46 b)

theorem quiet_eqv {P : Program} {f : FuncId} {args : Array Value} {w : World} {n : Nat} {v : Value}
    (h : Calls P f args (w.drewN n) fun e w' => e = .returned v ∧ w.drewN n = w') : Calls P f args (w.drewN n) fun e w'' => e = .returned v ∧ ∃ m, w'' = w.drewN m :=
  h.mono fun _ _ ⟨he, hm⟩ => ⟨he, n, hm.symm⟩

theorem drop_consS {l : List ByteArray} {k : Nat} {c : ByteArray} (hc : l[k]? = some c) : l.drop k = c :: l.drop (k + 1) := by
  obtain ⟨hk, rfl⟩ := List.getElem?_eq_some_iff.1 hc
  rw [List.drop_eq_getElem_cons hk]
theorem splitT_pos (b : Int) (s : ByteArray) : 0 < (splitT b s).length := by
  unfold splitT
  rw [List.length_map]
  exact splitL_pos b (sb s) []
theorem lessL_end {T U : List ByteArray} {k : Nat} (h : T.length ≤ k ∨ U.length ≤ k) : lessL (T.drop k) (U.drop k) = decide ((T.drop k).length < (U.drop k).length) := by
  rcases h with h | h
  · rw [List.drop_eq_nil_of_le h]
    cases U.drop k with
    | nil => rfl
    | cons x r => simp [lessL]
  · rw [List.drop_eq_nil_of_le h]
    cases T.drop k with
    | nil => rfl
    | cons x r => simp [lessL]

end Go.Proofs.Ytnoopfpgkgjdcal.Ver
