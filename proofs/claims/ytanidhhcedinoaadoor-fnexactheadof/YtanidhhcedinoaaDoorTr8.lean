/- Chapter 6, the specification's side: the exported functions. -/
import Derived.Test.YtanidhhcedinoaaDoorTr7
namespace Go.Proofs.YtanidhhcedinoaaDoor.Tr
open Go.RowKit Go.Proofs.YtanidhhcedinoaaDoor.Mem Go.Proofs.YtanidhhcedinoaaDoor.Laws Go.Proofs.YtanidhhcedinoaaDoor.Bytes Go.Proofs.YtanidhhcedinoaaDoor.Sha
set_option linter.unusedVariables false
set_option linter.unusedSimpArgs false

/-- texts held against each other -/
def eq6 (a b : ByteArray) : Bool := a.toList == b.toList
def rootOf (l : List ByteArray) : ByteArray := if l.length ≤ 200 then root l else ⟨#[]⟩
def inPath (l : List ByteArray) (i : Int) : List ByteArray := if l.length ≤ 200 ∧ 0 ≤ i ∧ i ≤ (l.length : Int) - 1 then path l i.toNat else []
def checkIn (s : ByteArray) (i n : Int) (p : List ByteArray) (r : ByteArray) : Bool :=
  if (1 ≤ n ∧ n ≤ 200) ∧ 0 ≤ i ∧ i ≤ n - 1 then (up (leafH s) i.toNat n.toNat p).2 && eq6 (up (leafH s) i.toNat n.toNat p).1 r else false
def growPath (l : List ByteArray) (n : Int) : List ByteArray := if l.length ≤ 200 ∧ 1 ≤ n ∧ n ≤ (l.length : Int) - 1 then grow l n.toNat true else []
def checkGrow (n m : Int) (a b : ByteArray) (p : List ByteArray) : Bool :=
  if 0 ≤ m ∧ m ≤ 200 then
    (if n = m then eq6 a b && p.isEmpty
     else if 1 ≤ n ∧ n ≤ m - 1 then (grown n.toNat m.toNat true a p).2.2 && eq6 (grown n.toNat m.toNat true a p).1 a && eq6 (grown n.toNat m.toNat true a p).2.1 b else false)
  else false

end Go.Proofs.YtanidhhcedinoaaDoor.Tr
