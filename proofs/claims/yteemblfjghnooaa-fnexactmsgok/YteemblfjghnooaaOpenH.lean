/- What came in, read as heads. -/
import Derived.Test.YteemblfjghnooaaOpen
import Derived.Test.YteemblfjghnooaaHe1
import Derived.Test.YteemblfjghnooaaProg
import Derived.ChangeSame
namespace Go.Proofs.Yteemblfjghnooaa.Open
open Go.RowKit Go.ChangeShapes Go.WideShapes Go.ChangeAt Go.Deep Go.Joins Go.Proofs.Yteemblfjghnooaa.Mem Go.Proofs.Yteemblfjghnooaa.He
set_option linter.unusedVariables false
set_option linter.unusedSimpArgs false

/-- a head whose number and text are such as Go can hold -/
def Okh (h : Hd) : Prop := (Lit.int .i64 h.n).wf = true ∧ h.r.size ≤ maxLen

section
variable {H : Type} {enc : TypeId × Value → H} {w : World} {base : Nat} {spare : Nat → Bool} {held : Bool}

set_option maxRecDepth 1000000 in
theorem cells_head : Try.prog.cellsOf 36 = 2 := by kernel_rfl

set_option maxRecDepth 1000000 in
theorem read_head {fuel : Nat} {cs : List Value} {y : DataW H × List MemPlace} (h : DataW.trod enc Try.prog w base spare held fuel 36 cs = some y) :
    ∃ n : Hd, cs = n.cs ∧ Okh n := by
  obtain ⟨y0, y1, n, _, hl, h0, h1⟩ := trod_struct2 Try.underlying36 h
  rw [cells_head] at hl
  match cs, hl with
  | [c0, c1], _ =>
    have k3 : Try.prog.cellsOf 3 = 1 := by kernel_rfl
    have k9 : Try.prog.cellsOf 9 = 1 := by kernel_rfl
    simp only [k3, k9, List.drop_zero, List.drop_succ_cons, List.take_succ_cons, List.take_zero] at h0 h1
    obtain ⟨a, e0, _, wa⟩ := DataW.trod_int Try.underlying3 h0
    obtain ⟨p, e1, _, wp⟩ := DataW.trod_string Try.underlying9 h1
    simp only [List.cons.injEq, and_true] at e0 e1
    subst e0 e1
    exact ⟨⟨a, p⟩, rfl, wa, wp⟩

theorem flat_hds : ∀ l : List Hd, (l.map Hd.cs).flatten = hds l := by
  intro l
  induction l with
  | nil => rfl
  | cons n r ih => rw [List.map_cons, List.flatten_cons, ih]; rfl
theorem rows_hds : ∀ R : List (List Value), (∀ r ∈ R, ∃ n : Hd, r = n.cs ∧ Okh n) → ∃ l : List Hd, R = l.map Hd.cs ∧ ∀ n ∈ l, Okh n := by
  intro R
  induction R with
  | nil => intro _; exact ⟨[], rfl, fun n hn => (by cases hn)⟩
  | cons r R ih =>
    intro h
    obtain ⟨n, rfl, hn⟩ := h r (by simp)
    obtain ⟨l, rfl, hl⟩ := ih (fun x hx => h x (by simp [hx]))
    exact ⟨n :: l, rfl, fun x hx => by rcases List.mem_cons.1 hx with rfl | hx; exact hn; exact hl x hx⟩

end

end Go.Proofs.Yteemblfjghnooaa.Open
