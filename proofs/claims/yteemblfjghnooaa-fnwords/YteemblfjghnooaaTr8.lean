/- Chapter 6, the specification's side: the exported functions. -/
import Derived.Test.YteemblfjghnooaaTr7
namespace Go.Proofs.Yteemblfjghnooaa.Tr
open Go.RowKit Go.Proofs.Yteemblfjghnooaa.Mem Go.Proofs.Yteemblfjghnooaa.Laws Go.Proofs.Yteemblfjghnooaa.Bytes Go.Proofs.Yteemblfjghnooaa.Sha
set_option linter.unusedVariables false
set_option linter.unusedSimpArgs false

/-- texts held against each other -/
def eq6 (a b : ByteArray) : Bool := a.toList == b.toList
def rootOf (l : List ByteArray) : ByteArray := if l.length ≤ 200 then root l else ⟨#[]⟩
def inPath (l : List ByteArray) (i : Int) : List ByteArray := if l.length ≤ 200 ∧ 0 ≤ i ∧ i ≤ (l.length : Int) - 1 then path l i.toNat else []
def checkIn (s : ByteArray) (i n : Int) (p : List ByteArray) (r : ByteArray) : Bool :=
  if (1 ≤ n ∧ n ≤ 200) ∧ 0 ≤ i ∧ i ≤ n - 1 then (up (leafH s) i.toNat n.toNat p).2 && eq6 (up (leafH s) i.toNat n.toNat p).1 r else false
def growPath (l : List ByteArray) (n : Int) : List ByteArray := if l.length ≤ 200 ∧ 1 ≤ n ∧ n ≤ (l.length : Int) - 1 then grow l n.toNat true else []
def checkGrow (n m : Int) (a b : ByteArray) (p : List ByteArray) : Bool :=
  if 0 ≤ m ∧ m ≤ 200 then
    (if n = m then eq6 a b && p.isEmpty
     else if 1 ≤ n ∧ n ≤ m - 1 then (grown n.toNat m.toNat true a p).2.2 && eq6 (grown n.toNat m.toNat true a p).1 a && eq6 (grown n.toNat m.toNat true a p).2.1 b else false)
  else false

set_option maxRecDepth 1000000 in
theorem in6 (w : World) (n a b : Int) : Calls Try.prog 38 #[.int .i64 n, .int .i64 a, .int .i64 b] w fun e w' => e = .returned (.bool (decide (a ≤ n ∧ n ≤ b))) ∧ w = w' := by
  obtain ⟨t, ht⟩ : ∃ t, decide (a ≤ n ∧ n ≤ b) = t := ⟨_, rfl⟩
  rw [ht]
  by_cases h1 : a ≤ n
  · by_cases h2 : n ≤ b
    · have HD : Hid (t = true) := by show _ = _; rw [← ht]; simp [h1, h2]
      clear ht
      go_enter Try.func38, Try.ntmps38
      go_wp2
      go_ret
      exact ⟨by rw [HD.out]; rfl, rfl⟩
    · have HD : Hid (t = false) := by show _ = _; rw [← ht]; simp [h2]
      clear ht
      go_enter Try.func38, Try.ntmps38
      go_wp2
      go_ret
      exact ⟨by rw [HD.out]; rfl, rfl⟩
  · have HD : Hid (t = false) := by show _ = _; rw [← ht]; simp [h1]
    clear ht
    go_enter Try.func38, Try.ntmps38
    go_wp2
    go_ret
    exact ⟨by rw [HD.out]; rfl, rfl⟩
theorem in6t (w : World) {n a b : Int} (h : a ≤ n ∧ n ≤ b) : Calls Try.prog 38 #[.int .i64 n, .int .i64 a, .int .i64 b] w fun e w' => e = .returned (.bool true) ∧ w = w' := by
  have q := in6 w n a b
  rwa [decide_eq_true h] at q
theorem in6f (w : World) {n a b : Int} (h : ¬ (a ≤ n ∧ n ≤ b)) : Calls Try.prog 38 #[.int .i64 n, .int .i64 a, .int .i64 b] w fun e w' => e = .returned (.bool false) ∧ w = w' := by
  have q := in6 w n a b
  rwa [decide_eq_false h] at q

end Go.Proofs.Yteemblfjghnooaa.Tr
