/- Chapter 10: heads as cells; plain facts. -/
import Derived.Test.YteemblfjghnooaaRow
import Derived.Test.YteemblfjghnooaaRow2
import Derived.Test.YteemblfjghnooaaRec
import Derived.Test.YteemblfjghnooaaTr8
namespace Go.Proofs.Yteemblfjghnooaa.He
open Go.RowKit Go.Proofs.Yteemblfjghnooaa.Mem Go.Proofs.Yteemblfjghnooaa.Laws Go.Proofs.Yteemblfjghnooaa.Sha Go.Proofs.Yteemblfjghnooaa.Tr
set_option linter.unusedVariables false
set_option linter.unusedSimpArgs false

/-- a head: how many texts, and their digest -/
structure Hd where
  n : Int
  r : ByteArray
theorem Hd.ext' {a b : Hd} (h1 : a.n = b.n) (h2 : a.r = b.r) : a = b := by cases a; cases b; simp_all
/-- its cells -/
def Hd.cs (h : Hd) : List Value := [.int .i64 h.n, .string h.r]
def hc (h : Hd) : Array Value := #[.int .i64 h.n, .string h.r]
def hds : List Hd → List Value
  | [] => []
  | h :: r => .int .i64 h.n :: .string h.r :: hds r
theorem hds_len : ∀ l : List Hd, (hds l).length = l.length * 2 := by
  intro l
  induction l with
  | nil => rfl
  | cons q r ih => simp [hds, ih]; omega
theorem hds_app (l m : List Hd) : hds (l ++ m) = hds l ++ hds m := by
  induction l with
  | nil => rfl
  | cons q r ih => simp [hds, ih]
theorem hds_snoc (l : List Hd) (n : Hd) : hds (l ++ [n]) = hds l ++ n.cs := by rw [hds_app]; rfl
theorem hds_one : ∀ l : List Hd, ∀ u ∈ hds l, u.oneCell' = true := by
  intro l
  induction l with
  | nil => intro u hu; cases hu
  | cons q r ih =>
    intro u hu
    simp only [hds, List.mem_cons] at hu
    rcases hu with rfl | rfl | hu
    · rfl
    · rfl
    · exact ih u hu
theorem hds_get : ∀ (l : List Hd) (k : Nat) (q : Hd), l[k]? = some q → (hds l)[k * 2]? = some (.int .i64 q.n) ∧ (hds l)[k * 2 + 1]? = some (.string q.r) := by
  intro l
  induction l with
  | nil => intro k q h; simp at h
  | cons x r ih =>
    intro k q h
    cases k with
    | zero => simp at h; subst h; exact ⟨rfl, rfl⟩
    | succ k =>
      have := ih k q (by simpa using h)
      have e : (k + 1) * 2 = k * 2 + 2 := by omega
      rw [e]
      exact this

/-- v is a slice of the heads l; v owns them -/
def Sh (w : World) (v : Value) (l : List Hd) : Prop := Sn 2 w v l.length (hds l)
def Oh (w : World) (lo hi : Nat) (v : Value) (l : List Hd) : Prop := On 2 w lo hi 25 v l.length (hds l)
theorem Oh.sh {w : World} {lo hi : Nat} {v : Value} {l : List Hd} (h : Oh w lo hi v l) : Sh w v l := On.sn h
theorem Sh.later {w w' : World} {v : Value} {l : List Hd} (h : Sh w v l) (hb : Below w.heap.size w w') : Sh w' v l := Sn.later h hb
theorem Oh.later {w w' : World} {lo hi B : Nat} {v : Value} {l : List Hd} (h : Oh w lo hi v l) (hb : Below B w w') (hB : hi ≤ B) : Oh w' lo hi v l := On.later h hb hB
theorem Sh.form {w : World} {v : Value} {l : List Hd} (h : Sh w v l) : ∃ ao cap, v = .slice ao l.length cap ∧ l.length ≤ cap := by
  obtain ⟨_, ao, cap, rfl, hc, _⟩ := h
  exact ⟨ao, cap, rfl, hc⟩
/-- where a head of a slice lies -/
theorem Sh.at {w : World} {v : Value} {l : List Hd} (h : Sh w v l) {k : Nat} {q : Hd} (hq : l[k]? = some q) : ∃ b off cap, v = .slice (some ⟨b, off, none⟩) l.length cap ∧ l.length ≤ cap ∧
    w.cell? ⟨b, off + k * 2, none⟩ = some (.int .i64 q.n) ∧ w.cell? ⟨b, off + k * 2 + 1, none⟩ = some (.string q.r) := by
  have hk : k < l.length := (List.getElem?_eq_some_iff.1 hq).1
  obtain ⟨b, off, cap, rfl, hc, hr⟩ := Sn.at h hk
  obtain ⟨h0, h1⟩ := hds_get l k q hq
  refine ⟨b, off, cap, rfl, hc, ?_, ?_⟩
  · have := hr 0 (by omega); rw [Nat.add_zero, h0] at this; exact this
  · have := hr 1 (by omega); rw [h1, ← Nat.add_assoc] at this; exact this

theorem sizeH (h : Hd) : (Try.prog.info? 25).map (·.size) = some (hc h).size := by
  show _ = some 2
  kernel_rfl

theorem oneH (h : Hd) : (hc h).all (·.oneCell') = true := by simp [hc, Value.oneCell']
/-- the head of nothing -/
def hd0 : Hd := ⟨0, ⟨#[]⟩⟩
/-- what HeadOk, HeadOf, IsSigned, BestHead and Fork answer -/
def okH (h : Hd) : Bool := decide ((0 ≤ h.n ∧ h.n ≤ 200) ∧ h.r.size = 32)
def headOf (l : List ByteArray) : Hd := if l.length ≤ 200 then ⟨l.length, root l⟩ else hd0
def eqH (a b : Hd) : Bool := (a.n == b.n) && (a.r.toList == b.r.toList)
def signed (t : List Hd) (h : Hd) : Bool := t.any (fun x => eqH x h)
def bestF : Hd → List Hd → Hd
  | b, [] => b
  | b, x :: r => if b.n < x.n then bestF x r else bestF b r
def best : List Hd → Hd
  | [] => hd0
  | x :: r => bestF x r
/-- one that forks from h -/
def apart (h x : Hd) : Bool := decide (x.n = h.n) && !eq6 x.r h.r
/-- the first two that fork: seen are ahead of the rest -/
def forkF : List Hd → List Hd → Hd × Hd × Bool
  | _, [] => (hd0, hd0, false)
  | seen, x :: r => match seen.find? (apart x) with
    | some y => (y, x, true)
    | none => forkF (seen ++ [x]) r
def fork (t : List Hd) : Hd × Hd × Bool := forkF [] t

end Go.Proofs.Yteemblfjghnooaa.He
