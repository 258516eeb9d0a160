/- Chapter 3, the specification's side: what is bumped. -/
import Derived.Test.YtnoopfpgkgjdcalVer7
import Derived.Laws.Rows
import Derived.Laws.CopyOwn
namespace Go.Proofs.Ytnoopfpgkgjdcal.Ver
set_option linter.unusedVariables false
set_option linter.unusedSimpArgs false
open Go.RowKit Go.Proofs.Ytnoopfpgkgjdcal.Mem Go.Proofs.Ytnoopfpgkgjdcal.Laws Go.Proofs.Ytnoopfpgkgjdcal.Bytes Go.Proofs.Ytnoopfpgkgjdcal.Sha

/-- what is bumped -/
def bump (a b c : Int) (p : ByteArray) (part : Int) : Int × Int × Int × ByteArray :=
  if okV a b c p = true then
    (if part = 0 then (if okV (a + 1) 0 0 ⟨#[]⟩ = true then (a + 1, 0, 0, ⟨#[]⟩) else (a, b, c, p))
     else if part = 1 then (if okV a (b + 1) 0 ⟨#[]⟩ = true then (a, b + 1, 0, ⟨#[]⟩) else (a, b, c, p))
     else if part = 2 then (if okV a b (c + 1) ⟨#[]⟩ = true then (a, b, c + 1, ⟨#[]⟩) else (a, b, c, p))
     else (a, b, c, p))
  else (a, b, c, p)
def verQ (q : Int × Int × Int × ByteArray) : Value := ver q.1 q.2.1 q.2.2.1 q.2.2.2

/-- a version's cells -/
def vc (a b c : Int) (p : ByteArray) : Array Value := #[.int .i64 a, .int .i64 b, .int .i64 c, .string p]
/-- block g holds a version -/
def Vr (w : World) (g : Nat) (a b c : Int) (p : ByteArray) : Prop := w.heap[g]? = some (.cells (vc a b c p) 28 (0, 0))
theorem Vr.lt {w : World} {g : Nat} {a b c : Int} {p : ByteArray} (h : Vr w g a b c p) : g < w.heap.size := (Array.getElem?_eq_some_iff.1 h).1
theorem Vr.same {w w' : World} {g : Nat} {a b c : Int} {p : ByteArray} (h : Vr w g a b c p) (hb : Below w.heap.size w w') : Vr w' g a b c p := (hb.block g h.lt).trans h
theorem Vr.cells {w : World} {g : Nat} {a b c : Int} {p : ByteArray} (h : Vr w g a b c p) : w.cell? ⟨g, 0, none⟩ = some (.int .i64 a) ∧ w.cell? ⟨g, 1, none⟩ = some (.int .i64 b) ∧ w.cell? ⟨g, 2, none⟩ = some (.int .i64 c) ∧ w.cell? ⟨g, 3, none⟩ = some (.string p) :=
  ⟨(cell_of_row w g 0 _ _ _ h).trans rfl, (cell_of_row w g 1 _ _ _ h).trans rfl, (cell_of_row w g 2 _ _ _ h).trans rfl, (cell_of_row w g 3 _ _ _ h).trans rfl⟩
theorem sizeV (a b c : Int) (p : ByteArray) : (Try.prog.info? 28).map (·.size) = some (vc a b c p).size := by
  show _ = some 4
  kernel_rfl
theorem oneV (a b c : Int) (p : ByteArray) : (vc a b c p).all (·.oneCell') = true := by unfold vc; simp [Value.oneCell']
theorem Vr.row {w : World} {g : Nat} {a b c : Int} {p : ByteArray} (h : Vr w g a b c p) (a' b' c' : Int) (p' : ByteArray) : Vr (w.setRow g (vc a' b' c' p')) g a' b' c' p' := setRow_heap w g _ _ _ _ h

end Go.Proofs.Ytnoopfpgkgjdcal.Ver
