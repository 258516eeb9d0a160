/- Chapter 3: the order of drawn versions, as the landed code tells it; plain facts alone. -/
import Derived.Test.YtbpgdagmffbagabImpI
import Derived.Test.YtbpgdagmffbagabImpE
import Derived.Test.YtbpgdagmffbagabDraw4
namespace Go.Proofs.Ytbpgdagmffbagab.Ver
open Go.RowKit Go.Proofs.Ytbpgdagmffbagab.Mem Go.Proofs.Ytbpgdagmffbagab.Laws Go.Proofs.Ytbpgdagmffbagab.Bytes Go.Proofs.Ytbpgdagmffbagab.Sha
set_option linter.unusedVariables false
set_option linter.unusedSimpArgs false

/-- where a drawn one stands in the order -/
def rank (p : ByteArray) : Int :=
  if p.data.toList = [49] then 0 else if p.data.toList = [50, 46, 120] then 1 else if p.data.toList = [97, 108, 112, 104, 97] then 2 else if p.data.toList = [98, 101, 116, 97, 45, 49] then 3
  else if p.data.toList = [114, 99] then 4 else if p.data.toList = [114, 99, 46, 49] then 5 else if p.data.toList = [114, 99, 46, 50] then 6 else 7

/-- the same as the comparisons of texts, in words that a kernel can reckon -/
def cmpB (a b : List UInt8) : Int := if Op.bytesLess a b = true then -1 else if a = b then 0 else 1
theorem cmpT_B (a b : ByteArray) : cmpT a b = cmpB a.data.toList b.data.toList := by
  unfold cmpT cmpB ltT eqT
  rw [ByteArray.toList_eq, ByteArray.toList_eq]
  simp
def cmpPartB (a b : List UInt8) : Int :=
  if isNum (a.map fun b => (b.toNat : Int)) = true then (if isNum (b.map fun b => (b.toNat : Int)) = true then orL [cmpI a.length b.length, cmpB a b] else -1) else (if isNum (b.map fun b => (b.toNat : Int)) = true then 1 else cmpB a b)
theorem cmpPart_B (a b : ByteArray) : cmpPart a b = cmpPartB a.data.toList b.data.toList := by
  unfold cmpPart cmpPartB
  rw [cmpT_B]
  rfl
def cmpLB : List (List UInt8) → List (List UInt8) → Int
  | [], [] => 0
  | [], _ :: _ => -1
  | _ :: _, [] => 1
  | t :: r, u :: q => if cmpPartB t u = 0 then cmpLB r q else cmpPartB t u
theorem cmpL_B : ∀ (l m : List ByteArray), cmpL l m = cmpLB (l.map (·.data.toList)) (m.map (·.data.toList)) := by
  intro l
  induction l with
  | nil => intro m; cases m <;> rfl
  | cons t r ih =>
    intro m
    cases m with
    | nil => rfl
    | cons u q =>
      simp only [List.map_cons, cmpL, cmpLB, cmpPart_B, ih]
def splitB (l : List UInt8) : List (List UInt8) := (split 46 (l.map fun b => (b.toNat : Int))).map Plain.u8s
theorem splitT_B (s : ByteArray) : (splitT 46 s).map (·.data.toList) = splitB s.data.toList := by
  unfold splitT splitB
  rw [List.map_map]
  rfl
def cmpPreB (a b : List UInt8) : Int := if a = b then 0 else if a.length = 0 then 1 else if b.length = 0 then -1 else cmpLB (splitB a) (splitB b)
theorem cmpPre_B (a b : ByteArray) : cmpPre a b = cmpPreB a.data.toList b.data.toList := by
  unfold cmpPre cmpPreB eqT
  rw [cmpL_B, splitT_B, splitT_B, ByteArray.toList_eq, ByteArray.toList_eq]
  simp

theorem rank_all : (preL.all fun p => preL.all fun q => decide (cmpPreB p.data.toList q.data.toList = cmpI (rank p) (rank q)) && (decide (rank p = rank q) == decide (p.data.toList = q.data.toList))) = true := by decide +kernel
theorem rank_pre {p q : ByteArray} (hp : p ∈ preL) (hq : q ∈ preL) : cmpPre p q = cmpI (rank p) (rank q) ∧ (rank p = rank q ↔ p = q) := by
  have h := List.all_eq_true.1 (List.all_eq_true.1 rank_all p hp) q hq
  rw [Bool.and_eq_true] at h
  refine ⟨by rw [cmpPre_B]; exact of_decide_eq_true h.1, ?_⟩
  have h2 := h.2
  rw [beq_iff_eq, decide_eq_decide] at h2
  rw [h2]
  constructor
  · intro h3; apply ByteArray.ext; apply Array.ext'; exact h3
  · rintro rfl; rfl
theorem pre_ok : (preL.all fun p => decide (p.data.size = 0) || pre (p.data.toList.map fun b => (b.toNat : Int))) = true := by decide +kernel
theorem Dv.ok {a b c : Int} {p : ByteArray} (h : Dv a b c p) : okV a b c p = true := by
  obtain ⟨⟨a0, a1⟩, ⟨b0, b1⟩, ⟨c0, c1⟩, hp⟩ := h
  have h2 := List.all_eq_true.1 pre_ok p hp
  unfold okV inM
  rw [decide_eq_true (show 0 ≤ a ∧ a ≤ 1000000 by omega), decide_eq_true (show 0 ≤ b ∧ b ≤ 1000000 by omega), decide_eq_true (show 0 ≤ c ∧ c ≤ 1000000 by omega)]
  exact h2
theorem Dv.size {a b c : Int} {p : ByteArray} (h : Dv a b c p) : p.size ≤ 8 := preL_size p h.2.2.2
theorem Dv.none {a b c : Int} {p : ByteArray} (h : Dv a b c p) : Dv a b c ⟨#[]⟩ := ⟨h.1, h.2.1, h.2.2.1, by unfold preL; exact List.mem_cons_self ..⟩

/-- less, of drawn ones: four numbers one by one -/
theorem less_D {a1 b1 c1 : Int} {p1 : ByteArray} {a2 b2 c2 : Int} {p2 : ByteArray} (h1 : p1 ∈ preL) (h2 : p2 ∈ preL) :
    decide (cmpV a1 b1 c1 p1 a2 b2 c2 p2 < 0) = decide (a1 < a2 ∨ a1 = a2 ∧ (b1 < b2 ∨ b1 = b2 ∧ (c1 < c2 ∨ c1 = c2 ∧ rank p1 < rank p2))) := by
  apply decide_eq_decide.2
  unfold cmpV
  rw [(rank_pre h1 h2).1]
  simp only [orL, cmpI]
  constructor
  · intro h
    repeat' split at h
    all_goals omega
  · intro h
    repeat' split
    all_goals omega

/-- the specification's comparisons, in words that a kernel can reckon -/
def lessPartB (a b : List UInt8) : Bool :=
  if 0 ≤ number (a.map fun b => (b.toNat : Int)) then (if 0 ≤ number (b.map fun b => (b.toNat : Int)) then decide (number (a.map fun b => (b.toNat : Int)) < number (b.map fun b => (b.toNat : Int))) else true) else (if 0 ≤ number (b.map fun b => (b.toNat : Int)) then false else Op.bytesLess a b)
theorem lessPart_B (a b : ByteArray) : lessPart a b = lessPartB a.data.toList b.data.toList := by
  unfold lessPart lessPartB ltT
  rw [ByteArray.toList_eq, ByteArray.toList_eq]
  rfl
def lessLB : List (List UInt8) → List (List UInt8) → Bool
  | [], [] => false
  | [], _ :: _ => true
  | _ :: _, [] => false
  | t :: r, u :: q => if t = u then lessLB r q else lessPartB t u
theorem lessL_B : ∀ (l m : List ByteArray), lessL l m = lessLB (l.map (·.data.toList)) (m.map (·.data.toList)) := by
  intro l
  induction l with
  | nil => intro m; cases m <;> rfl
  | cons t r ih =>
    intro m
    cases m with
    | nil => rfl
    | cons u q =>
      simp only [List.map_cons, lessL, lessLB, lessPart_B, ih]
      unfold eqT
      rw [ByteArray.toList_eq, ByteArray.toList_eq]
      simp
def lessPreB (a b : List UInt8) : Bool := if a = b then false else if a.length = 0 then false else if b.length = 0 then true else lessLB (splitB a) (splitB b)
theorem rank_less : (preL.all fun p => preL.all fun q => lessPreB p.data.toList q.data.toList == decide (rank p < rank q)) = true := by decide +kernel

theorem lessV_D {a1 b1 c1 : Int} {p1 : ByteArray} {a2 b2 c2 : Int} {p2 : ByteArray} (h1 : p1 ∈ preL) (h2 : p2 ∈ preL) :
    lessV a1 b1 c1 p1 a2 b2 c2 p2 = decide (a1 < a2 ∨ a1 = a2 ∧ (b1 < b2 ∨ b1 = b2 ∧ (c1 < c2 ∨ c1 = c2 ∧ rank p1 < rank p2))) := by
  have h := List.all_eq_true.1 (List.all_eq_true.1 rank_less p1 h1) p2 h2
  rw [beq_iff_eq] at h
  have hp : (if eqT p1 p2 = true ∨ p1.size = 0 then false else if p2.size = 0 then true else lessPre p1 p2) = decide (rank p1 < rank p2) := by
    rw [← h]
    unfold lessPreB lessPre
    rw [lessL_B, splitT_B, splitT_B]
    have e : (eqT p1 p2 = true) ↔ p1.data.toList = p2.data.toList := by
      unfold eqT
      rw [ByteArray.toList_eq, ByteArray.toList_eq]
      simp
    have z1 : p1.data.toList.length = p1.size := by simp
    have z2 : p2.data.toList.length = p2.size := by simp
    rw [z1, z2]
    by_cases h3 : p1.data.toList = p2.data.toList
    · rw [if_pos (.inl (e.2 h3)), if_pos h3]
    · rw [if_neg h3]
      by_cases h4 : p1.size = 0
      · rw [if_pos (.inr h4), if_pos h4]
      · rw [if_neg h4, if_neg]
        rintro (h5 | h5)
        · exact h3 (e.1 h5)
        · exact h4 h5
  unfold lessV
  rw [hp]
  by_cases x1 : a1 = a2
  · by_cases x2 : b1 = b2
    · by_cases x3 : c1 = c2
      · simp [x1, x2, x3]
      · simp [x1, x2, x3]
    · simp [x1, x2]
  · simp [x1]

end Go.Proofs.Ytbpgdagmffbagab.Ver
