/- Chapter 7, the specification's side: what is right; one more. -/
import Derived.Test.YtohcdlgjgpehcacDoorEd1
import Derived.Test.YtohcdlgjgpehcacDoorTr8
import Derived.Test.YtohcdlgjgpehcacDoorRec
import Derived.Deep.RegionHeld3
namespace Go.Proofs.YtohcdlgjgpehcacDoor.Ed
open Go.RowKit Go.Proofs.YtohcdlgjgpehcacDoor.Mem Go.Proofs.YtohcdlgjgpehcacDoor.Laws Go.Proofs.YtohcdlgjgpehcacDoor.Bytes Go.Proofs.YtohcdlgjgpehcacDoor.Sha Go.Proofs.YtohcdlgjgpehcacDoor.Tr
set_option linter.unusedVariables false
set_option linter.unusedSimpArgs false

theorem and_one : ∀ m : Fin 256, bits .and .i64 (m.val : Int) 1 = ((m.val % 2 : Nat) : Int) := by decide +kernel

/-- an edge's cells -/
def ee (n : Int) (v : Value) : Array Value := #[.int .i64 n, v]
theorem sizeEd (n : Int) (v : Value) : (Tryd.prog.info? 34).map (·.size) = some (ee n v).size := by
  show _ = some 2
  kernel_rfl
theorem oneEd (n : Int) {v : Value} (h : v.oneCell' = true) : (ee n v).all (·.oneCell') = true := by
  simp [ee, Value.oneCell']
  exact h

theorem okE_no {n : Int} {hs : List ByteArray} (h : ¬ ((0 ≤ n ∧ n ≤ 200) ∧ hs.length = popc n.toNat ∧ ∀ s ∈ hs, s.size = 32)) : okE n hs = false := by
  cases e : okE n hs with
  | false => rfl
  | true => exact absurd (okE_iff.1 e) h

end Go.Proofs.YtohcdlgjgpehcacDoor.Ed
