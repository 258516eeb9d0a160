/- Chapter 11: logs as cells; the specification's side: a new log, what is right, a copy. -/
import Derived.Test.YteemblfjghnooaaHeO
import Derived.Test.YteemblfjghnooaaHeE
import Derived.Test.YteemblfjghnooaaRec
import Derived.Deep.RegionHeld3
namespace Go.Proofs.Yteemblfjghnooaa.Lg
open Go.RowKit Go.Proofs.Yteemblfjghnooaa.Mem Go.Proofs.Yteemblfjghnooaa.Laws Go.Proofs.Yteemblfjghnooaa.Bytes Go.Proofs.Yteemblfjghnooaa.Sha Go.Proofs.Yteemblfjghnooaa.Tr Go.Proofs.Yteemblfjghnooaa.He
set_option linter.unusedVariables false
set_option linter.unusedSimpArgs false

/-- a log's cells: its texts, and its head -/
def lc (v : Value) (h : Hd) : Array Value := #[v, .int .i64 h.n, .string h.r]

theorem oneL {v : Value} (h : Hd) (hv : v.oneCell' = true) : (lc v h).all (·.oneCell') = true := by
  simp [lc, Value.oneCell']
  exact hv
/-- what LogOk answers -/
def logOk (l : List ByteArray) (h : Hd) : Bool := decide (l.length ≤ 200) && eqH h (headOf l)
theorem logOk_yes {l : List ByteArray} {h : Hd} (hk : logOk l h = true) : l.length ≤ 200 ∧ h = headOf l := by
  unfold logOk at hk
  simp only [Bool.and_eq_true, decide_eq_true_eq] at hk
  exact ⟨hk.1, (eqH_iff _ _).1 hk.2⟩
theorem logOk_of {l : List ByteArray} (hl : l.length ≤ 200) : logOk l (headOf l) = true := by
  unfold logOk
  simp only [Bool.and_eq_true, decide_eq_true_eq]
  exact ⟨hl, (eqH_iff _ _).2 rfl⟩

end Go.Proofs.Yteemblfjghnooaa.Lg
