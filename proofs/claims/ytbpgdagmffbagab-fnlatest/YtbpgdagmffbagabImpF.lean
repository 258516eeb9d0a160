/- Chapter 3, the landed code: which of two versions is less, down to the library's comparisons. -/
import Derived.Test.YtbpgdagmffbagabImpD
import Derived.Test.YtbpgdagmffbagabVer7
namespace Go.Proofs.Ytbpgdagmffbagab.Ver
open Go.RowKit Go.Proofs.Ytbpgdagmffbagab.Mem Go.Proofs.Ytbpgdagmffbagab.Laws Go.Proofs.Ytbpgdagmffbagab.Bytes Go.Proofs.Ytbpgdagmffbagab.Sha
set_option linter.unusedVariables false
set_option linter.unusedSimpArgs false

def cmpI (x y : Int) : Int := if x < y then -1 else if y < x then 1 else 0
def cmpT (a b : ByteArray) : Int := if ltT a b = true then -1 else if eqT a b = true then 0 else 1
/-- the first that is not 0 -/
def orL : List Int → Int
  | [] => 0
  | x :: r => if x = 0 then orL r else x
def cmpPart (a b : ByteArray) : Int :=
  if isNum (sb a) = true then (if isNum (sb b) = true then orL [cmpI a.size b.size, cmpT a b] else -1) else (if isNum (sb b) = true then 1 else cmpT a b)
def cmpL : List ByteArray → List ByteArray → Int
  | [], [] => 0
  | [], _ :: _ => -1
  | _ :: _, [] => 1
  | t :: r, u :: q => if cmpPart t u = 0 then cmpL r q else cmpPart t u
def cmpPre (a b : ByteArray) : Int := if eqT a b = true then 0 else if a.size = 0 then 1 else if b.size = 0 then -1 else cmpL (splitT 46 a) (splitT 46 b)
def cmpV (a1 b1 c1 : Int) (p1 : ByteArray) (a2 b2 c2 : Int) (p2 : ByteArray) : Int := orL [cmpI a1 a2, cmpI b1 b2, cmpI c1 c2, cmpPre p1 p2]

set_option maxRecDepth 1000000 in
theorem compare_int (w : World) (x y : Int) : Calls Try.prog 28 #[.int .i64 x, .int .i64 y] w fun e w' => e = .returned (.int .i64 (cmpI x y)) ∧ w' = w := by
  have n1 : (x != x) = false := by simp
  have n2 : (y != y) = false := by simp
  by_cases h1 : x < y
  · have d1 : decide (x < y) = true := by simpa using h1
    have HR : Hid (cmpI x y = -1) := by show _ = _; simp [cmpI, h1]
    go_enter Try.func28, Try.ntmps28
    go_wp2
    go_ret
    exact ⟨by rw [HR.out]; rfl, rfl⟩
  · by_cases h2 : y < x
    · have HR : Hid (cmpI x y = 1) := by show _ = _; simp [cmpI, h1, h2]
      go_enter Try.func28, Try.ntmps28
      go_wp2
      go_ret
      exact ⟨by rw [HR.out]; rfl, rfl⟩
    · have HR : Hid (cmpI x y = 0) := by show _ = _; simp [cmpI, h1, h2]
      go_enter Try.func28, Try.ntmps28
      go_wp2
      go_ret
      exact ⟨by rw [HR.out]; rfl, rfl⟩

theorem gtr_str (t : TypeId) (a b : ByteArray) : binOp .gtr t (.string a) (.string b) = pure (.bool !(ltT a b || eqT a b)) := by simp [binOp, Op.stringOp, ltT, eqT]
theorem lss_str (t : TypeId) (a b : ByteArray) : binOp .lss t (.string a) (.string b) = pure (.bool (ltT a b)) := by simp [binOp, Op.stringOp, ltT]

set_option maxRecDepth 1000000 in
theorem compare_str (w : World) (x y : ByteArray) : Calls Try.prog 45 #[.string x, .string y] w fun e w' => e = .returned (.int .i64 (cmpT x y)) ∧ w' = w := by
  have n1 : (x.toList == x.toList) = true := by simp
  have n2 : (y.toList == y.toList) = true := by simp
  obtain ⟨l, hl⟩ : ∃ l, ltT x y = l := ⟨_, rfl⟩
  obtain ⟨q, hq⟩ : ∃ q, eqT x y = q := ⟨_, rfl⟩
  have g1 := gtr_str 9 x y
  have HR : Hid (cmpT x y = if l = true then -1 else if q = true then 0 else 1) := by show _ = _; unfold cmpT; rw [hl, hq]
  have hl' : Op.bytesLess x.toList y.toList = l := hl
  rw [hl, hq] at g1
  clear hl hq
  cases l
  · cases q
    · go_enter Try.func45, Try.ntmps45
      go_wp2
      go_ret
      exact ⟨by rw [HR.out]; rfl, rfl⟩
    · go_enter Try.func45, Try.ntmps45
      go_wp2
      go_ret
      exact ⟨by rw [HR.out]; rfl, rfl⟩
  · go_enter Try.func45, Try.ntmps45
    go_wp2
    go_ret
    exact ⟨by rw [HR.out]; rfl, rfl⟩

end Go.Proofs.Ytbpgdagmffbagab.Ver
