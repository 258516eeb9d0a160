/- Chapter 11, the specification's side: what a log takes; what it proves. -/
import Derived.Test.YtccnhhdcdamgmabDoorLg1
import Derived.Test.YtccnhhdcdamgmabDoorHe3
import Derived.Test.YtccnhhdcdamgmabDoorTr8
import Derived.Test.YtccnhhdcdamgmabDoorNth
namespace Go.Proofs.YtccnhhdcdamgmabDoor.Lg
open Go.RowKit Go.Proofs.YtccnhhdcdamgmabDoor.Mem Go.Proofs.YtccnhhdcdamgmabDoor.Laws Go.Proofs.YtccnhhdcdamgmabDoor.Bytes Go.Proofs.YtccnhhdcdamgmabDoor.Sha Go.Proofs.YtccnhhdcdamgmabDoor.Tr Go.Proofs.YtccnhhdcdamgmabDoor.He
set_option linter.unusedVariables false
set_option linter.unusedSimpArgs false

/-- what Extend answers -/
def extend (l : List ByteArray) (hd : Hd) (t : List Hd) (h : Hd) (x : List ByteArray) : List ByteArray × Hd × Int :=
  if logOk l hd = true ∧ okH h = true ∧ h.n = ((l ++ x).length : Int) then
    if signed t h = true then
      if x.length = 0 then (l, hd, 3) else if eqH h (headOf (l ++ x)) = true then (l ++ x, h, 0) else (l, hd, 4)
    else (l, hd, 2)
  else (l, hd, 1)
theorem extend1 {l : List ByteArray} {hd : Hd} {h : Hd} {x : List ByteArray} (hk : ¬ (logOk l hd = true ∧ okH h = true ∧ h.n = ((l ++ x).length : Int))) (t : List Hd) : extend l hd t h x = (l, hd, 1) := by unfold extend; rw [if_neg hk]
theorem extend2 {l : List ByteArray} {hd : Hd} {t : List Hd} {h : Hd} {x : List ByteArray} (hk : logOk l hd = true ∧ okH h = true ∧ h.n = ((l ++ x).length : Int)) (hs : signed t h = false) : extend l hd t h x = (l, hd, 2) := by unfold extend; rw [if_pos hk, if_neg (by simp [hs])]
theorem extend3 {l : List ByteArray} {hd : Hd} {t : List Hd} {h : Hd} {x : List ByteArray} (hk : logOk l hd = true ∧ okH h = true ∧ h.n = ((l ++ x).length : Int)) (hs : signed t h = true) (hx : x.length = 0) : extend l hd t h x = (l, hd, 3) := by unfold extend; rw [if_pos hk, if_pos hs, if_pos hx]
theorem extend4 {l : List ByteArray} {hd : Hd} {t : List Hd} {h : Hd} {x : List ByteArray} (hk : logOk l hd = true ∧ okH h = true ∧ h.n = ((l ++ x).length : Int)) (hs : signed t h = true) (hx : ¬ x.length = 0) (he : eqH h (headOf (l ++ x)) = false) : extend l hd t h x = (l, hd, 4) := by unfold extend; rw [if_pos hk, if_pos hs, if_neg hx, if_neg (by simp [he])]
theorem extend0 {l : List ByteArray} {hd : Hd} {t : List Hd} {h : Hd} {x : List ByteArray} (hk : logOk l hd = true ∧ okH h = true ∧ h.n = ((l ++ x).length : Int)) (hs : signed t h = true) (hx : ¬ x.length = 0) (he : eqH h (headOf (l ++ x)) = true) : extend l hd t h x = (l ++ x, h, 0) := by unfold extend; rw [if_pos hk, if_pos hs, if_neg hx, if_pos he]
theorem size_app {l x : List ByteArray} {N : Nat} (h1 : ∀ s ∈ l, s.size ≤ N) (h2 : ∀ s ∈ x, s.size ≤ N) : ∀ s ∈ l ++ x, s.size ≤ N := by
  intro s hs
  rcases List.mem_append.1 hs with h | h
  · exact h1 s h
  · exact h2 s h

/-- what ProveIn and ProveGrown answer -/
def proveIn (l : List ByteArray) (h : Hd) (i : Int) : List ByteArray × Bool := if logOk l h = true ∧ 0 ≤ i ∧ i ≤ (l.length : Int) - 1 then (path l i.toNat, true) else ([], false)
def proveGrown (l : List ByteArray) (h : Hd) (n : Int) : List ByteArray × Bool := if logOk l h = true ∧ 1 ≤ n ∧ n ≤ (l.length : Int) - 1 then (grow l n.toNat true, true) else ([], false)

end Go.Proofs.YtccnhhdcdamgmabDoor.Lg
