/- Texts in one: Open7, Open, OpenH, OpenL. -/
import Derived.Test.YtchonoonclllbaaGreatDoorPv25
import Derived.Test.YtchonoonclllbaaGreatDoorProg
import Derived.Test.YtchonoonclllbaaGreatDoorPv2
import Derived.Test.YtchonoonclllbaaGreatDoorPv9
import Derived.Deep.Slices
import Derived.Lib.SmallJoins
import Derived.ChangeSame
import Derived.SliceStrings
import Derived.OpenShut
import Derived.ChangeOld
namespace Go.Proofs.YtchonoonclllbaaGreatDoor.Open
open Go.RowKit Go.ChangeShapes Go.WideShapes Go.ChangeAt Go.Deep Go.Joins Go.Proofs.YtchonoonclllbaaGreatDoor.Mem
set_option linter.unusedVariables false
set_option linter.unusedSimpArgs false
section
variable {H : Type} {enc : TypeId × Value → H} {w : World} {base : Nat} {held : Bool}
set_option maxRecDepth 1000000 in
theorem read_strs {fuel : Nat} {cs : List Value} {y : DataW H × List MemPlace} (h : DataW.trod enc Tryz.prog w base (fun _ => true) held fuel 24 cs = some y) :
  ∃ (ao : Option Addr) (m cap : Nat) (l : List ByteArray), cs = [.slice ao m cap] ∧ l.length ≤ maxLen ∧ (∀ s ∈ l, s.size ≤ maxLen) ∧ Sl w (.slice ao m cap) (ss l) := by
 rcases open_strings Tryz.underlying24 Tryz.underlying9 (by kernel_rfl) h with ⟨hcs, _⟩ | ⟨x, l, c, zs, hcs, _, hl, hm, hz, _, hcell, hwz⟩
 ·
  exact ⟨none, 0, 0, [], hcs, Nat.zero_le _, fun s hs => (by cases hs), Sl.nil w⟩
 ·
  obtain ⟨t, h1, h2, h3⟩ := RowSl.row_str hl hm (by simpa using hz) hcell hwz
  exact ⟨_, _, _, t, hcs, h3, h2, h1⟩
end
end Go.Proofs.YtchonoonclllbaaGreatDoor.Open
namespace Go.Proofs.YtchonoonclllbaaGreatDoor.Open
open Go.RowKit Go.ChangeShapes Go.WideShapes Go.ChangeAt Go.Deep Go.Proofs.YtchonoonclllbaaGreatDoor.Mem
set_option linter.unusedVariables false
set_option linter.unusedSimpArgs false
section
variable {H : Type} {enc : TypeId × Value → H} {P : Program} {w : World} {base : Nat} {spare : Nat → Bool} {held : Bool}
theorem flat_len {n : Nat} : ∀ rows : List (List Value), (∀ r ∈ rows, r.length = n) → rows.flatten.length = rows.length * n := by
 intro rows
 induction rows with
 | nil => intro _; simp
 | cons r s ih =>
  intro h
  rw [List.flatten_cons, List.length_append, ih (fun x hx => h x (by simp [hx])), h r (by simp), List.length_cons, Nat.add_mul]
  omega
theorem flat_get {n : Nat} : ∀ (rows : List (List Value)) (k j : Nat) (r : List Value), (∀ r ∈ rows, r.length = n) → rows[k]? = some r → j < n → rows.flatten[k * n + j]? = r[j]? := by
 intro rows
 induction rows with
 | nil => intro k j r _ h; simp at h
 | cons s rows ih =>
  intro k j r hl h hj
  have hs : s.length = n := hl s (by simp)
  rw [List.flatten_cons]
  cases k with
  | zero =>
   simp at h
   subst h
   rw [Nat.zero_mul, Nat.zero_add, List.getElem?_append_left (by omega)]
  | succ k =>
   rw [List.getElem?_append_right (by rw [hs, Nat.add_mul]; omega), hs, show (k + 1) * n + j - n = k * n + j by rw [Nat.add_mul]; omega]
   exact ih k j r (fun x hx => hl x (by simp [hx])) (by simpa using h) hj
theorem rows {t e : TypeId} {fuel n : Nat} {cs : List Value} {x : DataW H × List MemPlace} (ht : P.underlying t = some (.slice e)) (hn : P.cellsOf e = n) (hn0 : 0 < n) (h : DataW.trod enc P w base spare held fuel t cs = some x) :
  ∃ (ao : Option Addr) (m cap : Nat) (R : List (List Value)), cs = [.slice ao m cap] ∧ m ≤ maxLen ∧ R.length = m ∧ (∀ r ∈ R, r.length = n ∧ ∃ k y, DataW.trod enc P w base spare held k e r = some y) ∧ Sn n w (.slice ao m cap) m R.flatten := by
 rcases open_slice ht h with ⟨rfl, _⟩ | ⟨a, len, cap, m, k, D, Pl, rfl, hb, hl, hm, hmm, rfl, hx⟩
 ·
  exact ⟨none, 0, 0, [], rfl, Nat.zero_le _, rfl, fun r hr => (by cases hr), Sn.nil n w⟩
 ·
  have hlm : len ≤ m := by rw [hmm]; split <;> omega
  rw [hn] at hx
  obtain ⟨C, hC⟩ := choose_lt (α := List Value) (p := fun i c => w.cells? base (a.add (i * n)) n = some c ∧ DataW.trod enc P w base spare held k e c = some (D i, Pl i)) (n := len) (fun i hi => hx i (by omega))
  have hlen : ∀ i, i < len → (C i).length = n := fun i hi => (World.cells?_some (hC i hi).1).2.1
  have hR : ∀ r ∈ (List.range len).map C, r.length = n := by
   intro r hr
   obtain ⟨i, hi, rfl⟩ := List.mem_map.1 hr
   exact hlen i (List.mem_range.1 hi)
  refine ⟨some a, len, cap, (List.range len).map C, rfl, Nat.le_trans hl hm, by simp, ?_, ?_⟩
  ·
   intro r hr
   refine ⟨hR r hr, ?_⟩
   obtain ⟨i, hi, rfl⟩ := List.mem_map.1 hr
   exact ⟨k, _, (hC i (List.mem_range.1 hi)).2⟩
  ·
   refine ⟨by rw [flat_len _ hR]; simp, some a, cap, rfl, hl, fun h => (by cases h), fun hp => ?_⟩
   obtain ⟨b, off, spot⟩ := a
   have hc0 := (World.cells?_some (hC 0 hp).1).2.2 0 hn0
   have hspot : spot = none := by
    have h1 : (C 0)[0]? = some ((C 0)[0]'(by rw [hlen 0 hp]; exact hn0)) := by simp
    rw [h1] at hc0
    simpa [Addr.add] using World.cell?_spot hc0
   subst hspot
   refine ⟨b, off, rfl, fun j hj => ?_⟩
   rw [flat_len _ hR, List.length_map, List.length_range] at hj
   have hq : j / n < len := by rw [Nat.div_lt_iff_lt_mul hn0]; exact hj
   have hj2 : j % n < n := Nat.mod_lt _ hn0
   have hjj : j / n * n + j % n = j := by rw [Nat.mul_comm]; exact Nat.div_add_mod j n
   have h2 := (World.cells?_some (hC (j / n) hq).1).2.2 (j % n) hj2
   rw [Go.WideShapes.add_plain, Go.WideShapes.add_plain, Nat.add_assoc, hjj] at h2
   rw [h2]
   have h3 := flat_get (n := n) ((List.range len).map C) (j / n) (j % n) (C (j / n)) hR (by simp [hq]) hj2
   rw [hjj] at h3
   exact h3.symm
end
end Go.Proofs.YtchonoonclllbaaGreatDoor.Open
namespace Go.Proofs.YtchonoonclllbaaGreatDoor.Open
open Go.RowKit Go.ChangeShapes Go.WideShapes Go.ChangeAt Go.Deep Go.Joins Go.Proofs.YtchonoonclllbaaGreatDoor.Mem Go.Proofs.YtchonoonclllbaaGreatDoor.He
set_option linter.unusedVariables false
set_option linter.unusedSimpArgs false
def Okh (h : Hd) : Prop := (Lit.int .i64 h.n).wf = true ∧ h.r.size ≤ maxLen
section
variable {H : Type} {enc : TypeId × Value → H} {w : World} {base : Nat} {spare : Nat → Bool} {held : Bool}
set_option maxRecDepth 1000000 in
theorem cells_head : Tryz.prog.cellsOf 57 = 2 := by kernel_rfl
set_option maxRecDepth 1000000 in
theorem read_head {fuel : Nat} {cs : List Value} {y : DataW H × List MemPlace} (h : DataW.trod enc Tryz.prog w base spare held fuel 57 cs = some y) :
  ∃ n : Hd, cs = n.cs ∧ Okh n := by
 obtain ⟨y0, y1, n, _, hl, h0, h1⟩ := trod_struct2 Tryz.underlying57 h
 rw [cells_head] at hl
 match cs, hl with
 | [c0, c1], _ =>
  have k3 : Tryz.prog.cellsOf 3 = 1 := by kernel_rfl
  have k9 : Tryz.prog.cellsOf 9 = 1 := by kernel_rfl
  simp only [k3, k9, List.drop_zero, List.drop_succ_cons, List.take_succ_cons, List.take_zero] at h0 h1
  obtain ⟨a, e0, _, wa⟩ := DataW.trod_int Tryz.underlying3 h0
  obtain ⟨p, e1, _, wp⟩ := DataW.trod_string Tryz.underlying9 h1
  simp only [List.cons.injEq, and_true] at e0 e1
  subst e0 e1
  exact ⟨⟨a, p⟩, rfl, wa, wp⟩
theorem flat_hds : ∀ l : List Hd, (l.map Hd.cs).flatten = hds l := by
 intro l
 induction l with
 | nil => rfl
 | cons n r ih => rw [List.map_cons, List.flatten_cons, ih]; rfl
theorem rows_hds : ∀ R : List (List Value), (∀ r ∈ R, ∃ n : Hd, r = n.cs ∧ Okh n) → ∃ l : List Hd, R = l.map Hd.cs ∧ ∀ n ∈ l, Okh n := by
 intro R
 induction R with
 | nil => intro _; exact ⟨[], rfl, fun n hn => (by cases hn)⟩
 | cons r R ih =>
  intro h
  obtain ⟨n, rfl, hn⟩ := h r (by simp)
  obtain ⟨l, rfl, hl⟩ := ih (fun x hx => h x (by simp [hx]))
  exact ⟨n :: l, rfl, fun x hx => by rcases List.mem_cons.1 hx with rfl | hx; exact hn; exact hl x hx⟩
set_option maxRecDepth 1000000 in
theorem read_heads {fuel : Nat} {cs : List Value} {y : DataW H × List MemPlace} (h : DataW.trod enc Tryz.prog w base spare held fuel 64 cs = some y) :
  ∃ (ao : Option Addr) (m cap : Nat) (l : List Hd), cs = [.slice ao m cap] ∧ l.length = m ∧ l.length ≤ maxLen ∧ (∀ n ∈ l, Okh n) ∧ Sh w (.slice ao m cap) l := by
 obtain ⟨ao, m, cap, R, rfl, hm, hR, hr, hs⟩ := rows Tryz.underlying64 cells_head (by omega) h
 obtain ⟨l, rfl, hl⟩ := rows_hds R (fun r hr' => by
  obtain ⟨_, k, y, hy⟩ := hr r hr'
  exact read_head hy)
 rw [flat_hds] at hs
 rw [List.length_map] at hR
 subst hR
 exact ⟨ao, l.length, cap, l, rfl, rfl, hm, hl, hs⟩
end
section
variable {H : Type} {enc : TypeId × Value → H} {w : World} {base : Nat} {held : Bool}
set_option maxRecDepth 1000000 in
theorem cells_log : Tryz.prog.cellsOf 59 = 3 := by kernel_rfl
set_option maxRecDepth 1000000 in
theorem read_log {fuel : Nat} {cs : List Value} {y : DataW H × List MemPlace} (h : DataW.trod enc Tryz.prog w base (fun _ => true) held fuel 59 cs = some y) :
  ∃ (n : Hd) (ao : Option Addr) (m cap : Nat) (l : List ByteArray), cs = [.slice ao m cap, .int .i64 n.n, .string n.r] ∧ Okh n ∧ l.length ≤ maxLen ∧ (∀ s ∈ l, s.size ≤ maxLen) ∧ Sl w (.slice ao m cap) (ss l) := by
 obtain ⟨y0, y1, k, _, hl, h0, h1⟩ := trod_struct2 Tryz.underlying59 h
 rw [cells_log] at hl
 match cs, hl with
 | [c0, c1, c2], _ =>
  have kh : Tryz.prog.cellsOf 57 = 2 := cells_head
  have ks : Tryz.prog.cellsOf 24 = 1 := by kernel_rfl
  simp only [kh, ks, List.drop_zero, List.drop_succ_cons, List.take_succ_cons, List.take_zero] at h0 h1
  obtain ⟨ao, m, cap, l, e0, hm, hz, hs⟩ := read_strs h0
  obtain ⟨n, e1, ho⟩ := read_head h1
  simp only [Hd.cs, List.cons.injEq, and_true] at e0 e1
  obtain ⟨e1, e2⟩ := e1
  subst e0 e1 e2
  exact ⟨n, ao, m, cap, l, rfl, ho, hm, hz, hs⟩
end
end Go.Proofs.YtchonoonclllbaaGreatDoor.Open
