/- Chapter 3: contracts in the words of the law on the latest. -/
import Derived.Test.YtbpgdagmffbagabLatC
import Derived.Test.YtbpgdagmffbagabImpE
namespace Go.Proofs.Ytbpgdagmffbagab.Ver
open Go.RowKit Go.Proofs.Ytbpgdagmffbagab.Mem Go.Proofs.Ytbpgdagmffbagab.Laws Go.Proofs.Ytbpgdagmffbagab.Bytes Go.Proofs.Ytbpgdagmffbagab.Sha
set_option linter.unusedVariables false
set_option linter.unusedSimpArgs false

theorem lessA (W : World) (a1 b1 c1 : Int) (p1 : ByteArray) (a2 b2 c2 : Int) (p2 : ByteArray) (r : Bool) (hr : decide (cmpV a1 b1 c1 p1 a2 b2 c2 p2 < 0) = r) (h1 : p1.size ≤ 100) (h2 : p2.size ≤ 100) :
    Calls Try.prog 7 #[.agg #[.int .i64 a1, .int .i64 b1, .int .i64 c1, .string p1], .agg #[.int .i64 a2, .int .i64 b2, .int .i64 c2, .string p2]] W fun e w' => e = .returned (.bool r) ∧ Below W.heap.size W w' := by
  rw [← hr]
  exact less_impl W a1 b1 c1 p1 a2 b2 c2 p2 (by omega) (by omega)
theorem bumpA (W : World) (a b c : Int) (p : ByteArray) (part : Int) (x y z : Int) (u : ByteArray) (h : bump a b c p part = (x, y, z, u)) (h1 : p.size ≤ 100) :
    Calls Try.prog 12 #[.agg #[.int .i64 a, .int .i64 b, .int .i64 c, .string p], .int .i64 part] W fun e w' => e = .returned (.agg #[.int .i64 x, .int .i64 y, .int .i64 z, .string u]) ∧ Below W.heap.size W w' := by
  have q := bump_impl W a b c p part (by omega)
  rw [h] at q
  exact q
theorem bumpB (W : World) (a b c : Int) (p : ByteArray) (part : Int) (x y z : Int) (u : ByteArray) (h : bump a b c p part = (x, y, z, u)) (h1 : p.size ≤ 100) :
    Calls Try.prog 13 #[.agg #[.int .i64 a, .int .i64 b, .int .i64 c, .string p], .int .i64 part] W fun e w' => e = .returned (.agg #[.int .i64 x, .int .i64 y, .int .i64 z, .string u]) ∧ Below W.heap.size W w' := by
  have q := bump_spec W a b c p part (by omega)
  rw [h] at q
  exact q
theorem okA (W : World) (a b c : Int) (p : ByteArray) (r : Bool) (hr : okV a b c p = r) (hp : p.size ≤ 100) :
    Calls Try.prog 14 #[.agg #[.int .i64 a, .int .i64 b, .int .i64 c, .string p]] W fun e w' => e = .returned (.bool r) ∧ Below W.heap.size W w' := by
  rw [← hr]
  exact ok_impl W a b c p (by omega)

/-- the latest of a list, or the zero one -/
theorem latA (W : World) (g cap : Nat) (l : List (Int × Int × Int × ByteArray)) (hcv : Cv W g l) (hc : l.length ≤ cap) (hl : l.length ≤ 5) (hd : ∀ q ∈ l, Dv q.1 q.2.1 q.2.2.1 q.2.2.2) :
    ∃ x y z u, (Calls Try.prog 10 #[.slice (some ⟨g, 0, none⟩) l.length cap] W fun e w' => e = .returned (.agg #[.int .i64 x, .int .i64 y, .int .i64 z, .string u]) ∧ Below W.heap.size W w') ∧
      u.size ≤ 100 ∧ (l = [] → x = 0 ∧ y = 0 ∧ z = 0 ∧ u = ⟨#[]⟩) ∧ (¬ l = [] → (x, y, z, u) ∈ l) ∧ ∀ q ∈ l, decide (cmpV x y z u q.1 q.2.1 q.2.2.1 q.2.2.2 < 0) = false := by
  cases l with
  | nil => exact ⟨0, 0, 0, ⟨#[]⟩, lat_nil W g cap, Nat.zero_le _, fun _ => ⟨rfl, rfl, rfl, rfl⟩, fun h => absurd rfl h, fun q hq => by cases hq⟩
  | cons q r =>
    obtain ⟨h1, h2⟩ := lat_facts r q hd
    obtain ⟨x, y, z, u, hx⟩ : ∃ x y z u, latF q r = (x, y, z, u) := ⟨_, _, _, _, rfl⟩
    have hs : ∀ v ∈ q :: r, v.2.2.2.size ≤ 100 := fun v hv => by have := (hd v hv).any.2.2.2; omega
    have q1 := lat_impl W g cap q r hcv hc (by simp at hl; omega) hs
    rw [hx] at q1 h1 h2
    exact ⟨x, y, z, u, q1, hs _ h1, fun h => (by cases h), fun _ => h1, h2⟩

/-- whether the list was empty, or one of its first k is that version -/
def isK (l : List (Int × Int × Int × ByteArray)) (x y z : Int) (u : ByteArray) (k : Nat) : Bool := decide (l.length = 0) || (l.take k).any fun q => sameV q.1 q.2.1 q.2.2.1 q.2.2.2 x y z u
theorem isK_step {l : List (Int × Int × Int × ByteArray)} {x y z : Int} {u : ByteArray} {k : Nat} {q : Int × Int × Int × ByteArray} (hq : l[k]? = some q) : isK l x y z u (k + 1) = (isK l x y z u k || sameV q.1 q.2.1 q.2.2.1 q.2.2.2 x y z u) := by
  obtain ⟨hk, rfl⟩ := List.getElem?_eq_some_iff.1 hq
  unfold isK
  rw [List.take_succ_eq_append_getElem hk, List.any_append, ← Bool.or_assoc]
  simp
theorem isK_end {l : List (Int × Int × Int × ByteArray)} {x y z : Int} {u : ByteArray} {k : Nat} (hk : l.length ≤ k) (h : ¬ l = [] → (x, y, z, u) ∈ l) : isK l x y z u k = true := by
  unfold isK
  by_cases h0 : l = []
  · subst h0; rfl
  · rw [List.take_of_length_le hk]
    have : l.any (fun q => sameV q.1 q.2.1 q.2.2.1 q.2.2.2 x y z u) = true := List.any_eq_true.2 ⟨(x, y, z, u), h h0, (sameV_iff _ _ _ _ _ _ _ _).2 ⟨rfl, rfl, rfl, rfl⟩⟩
    rw [this, Bool.or_true]

end Go.Proofs.Ytbpgdagmffbagab.Ver
