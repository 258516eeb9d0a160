/- What came in, read as heads. -/
import Derived.Test.YtccnhhdcdamgmaaDoorOpen
import Derived.Test.YtccnhhdcdamgmaaDoorHe1
import Derived.Test.YtccnhhdcdamgmaaDoorProg
import Derived.ChangeSame
namespace Go.Proofs.YtccnhhdcdamgmaaDoor.Open
open Go.RowKit Go.ChangeShapes Go.WideShapes Go.ChangeAt Go.Deep Go.Joins Go.Proofs.YtccnhhdcdamgmaaDoor.Mem Go.Proofs.YtccnhhdcdamgmaaDoor.He
set_option linter.unusedVariables false
set_option linter.unusedSimpArgs false

/-- a head whose number and text are such as Go can hold -/
def Okh (h : Hd) : Prop := (Lit.int .i64 h.n).wf = true ∧ h.r.size ≤ maxLen

section
variable {H : Type} {enc : TypeId × Value → H} {w : World} {base : Nat} {spare : Nat → Bool} {held : Bool}

set_option maxRecDepth 1000000 in
theorem cells_head : Tryd.prog.cellsOf 48 = 2 := by kernel_rfl

set_option maxRecDepth 1000000 in
theorem read_head {fuel : Nat} {cs : List Value} {y : DataW H × List MemPlace} (h : DataW.trod enc Tryd.prog w base spare held fuel 48 cs = some y) :
    ∃ n : Hd, cs = n.cs ∧ Okh n := by
  obtain ⟨y0, y1, n, _, hl, h0, h1⟩ := trod_struct2 Tryd.underlying48 h
  rw [cells_head] at hl
  match cs, hl with
  | [c0, c1], _ =>
    have k3 : Tryd.prog.cellsOf 3 = 1 := by kernel_rfl
    have k9 : Tryd.prog.cellsOf 9 = 1 := by kernel_rfl
    simp only [k3, k9, List.drop_zero, List.drop_succ_cons, List.take_succ_cons, List.take_zero] at h0 h1
    obtain ⟨a, e0, _, wa⟩ := DataW.trod_int Tryd.underlying3 h0
    obtain ⟨p, e1, _, wp⟩ := DataW.trod_string Tryd.underlying9 h1
    simp only [List.cons.injEq, and_true] at e0 e1
    subst e0 e1
    exact ⟨⟨a, p⟩, rfl, wa, wp⟩

theorem flat_hds : ∀ l : List Hd, (l.map Hd.cs).flatten = hds l := by
  intro l
  induction l with
  | nil => rfl
  | cons n r ih => rw [List.map_cons, List.flatten_cons, ih]; rfl
theorem rows_hds : ∀ R : List (List Value), (∀ r ∈ R, ∃ n : Hd, r = n.cs ∧ Okh n) → ∃ l : List Hd, R = l.map Hd.cs ∧ ∀ n ∈ l, Okh n := by
  intro R
  induction R with
  | nil => intro _; exact ⟨[], rfl, fun n hn => (by cases hn)⟩
  | cons r R ih =>
    intro h
    obtain ⟨n, rfl, hn⟩ := h r (by simp)
    obtain ⟨l, rfl, hl⟩ := ih (fun x hx => h x (by simp [hx]))
    exact ⟨n :: l, rfl, fun x hx => by rcases List.mem_cons.1 hx with rfl | hx; exact hn; exact hl x hx⟩

set_option maxRecDepth 1000000 in
theorem read_heads {fuel : Nat} {cs : List Value} {y : DataW H × List MemPlace} (h : DataW.trod enc Tryd.prog w base spare held fuel 54 cs = some y) :
    ∃ (ao : Option Addr) (m cap : Nat) (l : List Hd), cs = [.slice ao m cap] ∧ l.length = m ∧ l.length ≤ maxLen ∧ (∀ n ∈ l, Okh n) ∧ Sh w (.slice ao m cap) l := by
  obtain ⟨ao, m, cap, R, rfl, hm, hR, hr, hs⟩ := rows Tryd.underlying54 cells_head (by omega) h
  obtain ⟨l, rfl, hl⟩ := rows_hds R (fun r hr' => by
    obtain ⟨_, k, y, hy⟩ := hr r hr'
    exact read_head hy)
  rw [flat_hds] at hs
  rw [List.length_map] at hR
  subst hR
  exact ⟨ao, l.length, cap, l, rfl, rfl, hm, hl, hs⟩

end

end Go.Proofs.YtccnhhdcdamgmaaDoor.Open
