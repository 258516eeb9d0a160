/- Chapter 7, the landed code: the edge of texts; one more; its root. -/
import Derived.Test.YtkdlgbccaaehaabDoorEsD
namespace Go.Proofs.YtkdlgbccaaehaabDoor.Ed
open Go.RowKit Go.Proofs.YtkdlgbccaaehaabDoor.Mem Go.Proofs.YtkdlgbccaaehaabDoor.Laws Go.Proofs.YtkdlgbccaaehaabDoor.Bytes Go.Proofs.YtkdlgbccaaehaabDoor.Sha Go.Proofs.YtkdlgbccaaehaabDoor.Tr
set_option linter.unusedVariables false
set_option linter.unusedSimpArgs false

theorem okE_nil : okE ((0 : Nat) : Int) [] = true := by rw [okE_iff]; exact ⟨by omega, rfl, fun s hs => by cases hs⟩
theorem allE_of (l : List ByteArray) : (allE 0 [] l).1 = ((edgeOf l).1 : Int) ∧ (allE 0 [] l).2.1 = (edgeOf l).2 := by
  by_cases h : l.length ≤ 200
  · have := allE_edge (l := []) (r := l) (by simp; omega)
    rw [edge_nil, List.nil_append] at this
    rw [show ((([] : List ByteArray).length : Nat) : Int) = 0 from rfl] at this
    rw [this]
    unfold edgeOf
    rw [if_pos h]
    exact ⟨rfl, rfl⟩
  · have := allE_full (r := l) okE_nil (by omega)
    rw [show ((0 : Nat) : Int) = 0 from rfl] at this
    rw [this]
    unfold edgeOf
    rw [if_neg h]
    exact ⟨rfl, rfl⟩
theorem allE_one (n : Int) (hs : List ByteArray) (s : ByteArray) : allE n hs [s] = addE n hs s := by
  by_cases h : okE n hs = true ∧ n ≠ 200
  · unfold allE
    rw [goE, addE_yes h.1 h.2, if_pos rfl]
    rfl
  · unfold allE
    rw [goE, addE_no h, if_neg (by simp)]
theorem eroot_join : ∀ (q : List ByteArray) (y r : ByteArray), eroot (q ++ [y, r]) = eroot (q ++ [nodeH y r])
  | [], y, r => rfl
  | [a], y, r => rfl
  | a :: b :: q, y, r => by
    show eroot (a :: (b :: q ++ [y, r])) = eroot (a :: (b :: q ++ [nodeH y r]))
    rw [eroot_cons (by simp), eroot_cons (by simp), eroot_join (b :: q) y r]

/-- 1 of true -/
def bN : Value → Nat
  | .bool true => 1
  | _ => 0

/-- how many a stack has -/
def skLen (w : World) (gs : Nat) : Nat := match w.cell? ⟨gs, 0, none⟩ with
  | some (.slice _ n _) => n
  | _ => 0
theorem Sk.len {w : World} {lo gs : Nat} {hs : List ByteArray} (h : Sk w lo gs hs) : skLen w gs = hs.length := by
  obtain ⟨v, h1, h2, h3⟩ := h
  obtain ⟨ao, cap, rfl⟩ := h3.len
  have : w.cell? ⟨gs, 0, none⟩ = some (.slice ao (ss hs).length cap) := row_at h2 0
  unfold skLen
  rw [this, ss_len]

set_option maxRecDepth 1000000 in
set_option maxHeartbeats 4000000 in
theorem pop_case (w : World) (lo gs : Nat) (q : List ByteArray) (h : Sk w lo gs q) (hl : q.length ≤ 1000000000) : ∃ (y : ByteArray) (mo : Bool) (q1 : List ByteArray), Hid ((mo = true ∧ q = q1 ++ [y]) ∨ (mo = false ∧ q = [] ∧ q1 = [])) ∧
    Calls Tryd.prog 21 #[.pointer (some ⟨gs, 0, none⟩)] w fun e w' => e = .returned (.tuple #[.string y, .bool mo]) ∧ Sk w' lo gs q1 ∧ Below lo w w' := by
  by_cases hn : q = []
  · subst hn
    refine ⟨⟨#[]⟩, false, [], .inr ⟨rfl, rfl, rfl⟩, (pop_none w lo gs h).mono ?_⟩
    rintro e w' ⟨rfl, rfl⟩
    exact ⟨rfl, h, Below.refl _ _⟩
  · have hq := (List.dropLast_concat_getLast hn).symm
    refine ⟨q.getLast hn, true, q.dropLast, .inl ⟨rfl, hq⟩, ?_⟩
    exact pop_some w lo gs q.dropLast (q.getLast hn) (by rw [← hq]; exact h) (by rw [List.length_dropLast]; omega)

/-- what a round of EdgeRoot keeps -/
def Inv (w wr : World) (gs : Nat) (r y : ByteArray) (mo : Bool) (t : ByteArray) : Prop :=
  ∃ q : List ByteArray, Sk wr w.heap.size gs q ∧ Below w.heap.size w wr ∧ q.length ≤ 1000000000 ∧
    (mo = true → t = eroot (q ++ [y, r]) ∧ (∀ s ∈ q, s.size = 32) ∧ y.size = 32 ∧ r.size = 32) ∧ (mo = false → t = r ∧ q = [])

end Go.Proofs.YtkdlgbccaaehaabDoor.Ed
