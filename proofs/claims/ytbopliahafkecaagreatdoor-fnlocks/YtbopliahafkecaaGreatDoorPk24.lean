/- Texts in one: OrdE, Fe1, Fe2, Fe3, Lk3, EntR, EntU. -/
import Derived.Test.YtbopliahafkecaaGreatDoorPk10
import Derived.Test.YtbopliahafkecaaGreatDoorPk4
import Derived.Test.YtbopliahafkecaaGreatDoorPk13
import Derived.Test.YtbopliahafkecaaGreatDoorPk6
import Derived.Test.YtbopliahafkecaaGreatDoorPk21
import Derived.Test.YtbopliahafkecaaGreatDoorPk15
import Derived.Test.YtbopliahafkecaaGreatDoorPk23
import Derived.Test.YtbopliahafkecaaGreatDoorPk14
import Derived.Laws.StructEq
/- Two versions held against each other, as the language does it. -/
namespace Go.Proofs.YtbopliahafkecaaGreatDoor.Ver
open Go.RowKit Go.Proofs.YtbopliahafkecaaGreatDoor.Mem Go.Proofs.YtbopliahafkecaaGreatDoor.Laws Go.Proofs.YtbopliahafkecaaGreatDoor.Bytes Go.Proofs.YtbopliahafkecaaGreatDoor.Sha
set_option linter.unusedVariables false
set_option linter.unusedSimpArgs false

theorem fieldsV : Tryz.prog.underlying 45 = some (.struct (Tryz.prog.fieldsOf 45)) := by kernel_rfl
theorem heldV : Tryz.prog.stoodInHeld 45 = false := by kernel_rfl
theorem guardV : Tryz.prog.eqGuardType Tryz.prog.depth 45 = false := by kernel_rfl
theorem fieldsL : (Tryz.prog.fieldsOf 45).toList.map (fun f => (f.type, f.offset)) = [(3, 0), (3, 1), (3, 2), (9, 3)] := by kernel_rfl
/-- the same version -/
def sameV (a1 b1 c1 : Int) (p1 : ByteArray) (a2 b2 c2 : Int) (p2 : ByteArray) : Bool := (a1 == a2) && (b1 == b2) && (c1 == c2) && (p1.toList == p2.toList)

theorem eqV (w : World) (a1 b1 c1 : Int) (p1 : ByteArray) (a2 b2 c2 : Int) (p2 : ByteArray) :
    (Op.equalIn 10000 45 (.agg #[.int .i64 a1, .int .i64 b1, .int .i64 c1, .string p1]) (.agg #[.int .i64 a2, .int .i64 b2, .int .i64 c2, .string p2])).run Tryz.prog w = .ok (sameV a1 b1 c1 p1 a2 b2 c2 p2) w := by
  rw [run_equalIn_struct w 9999 _ _ _ fieldsV heldV]
  simp [Program.fieldsOf, Tryz.underlying45, Op.eqFields, go_sem, run_underlying Tryz.underlying3, run_underlying Tryz.underlying9, Tryz.underlying3, Tryz.underlying9, part]
  unfold sameV
  repeat' split
  all_goals simp_all

theorem neqV (w : World) (a1 b1 c1 : Int) (p1 : ByteArray) (a2 b2 c2 : Int) (p2 : ByteArray) :
    (binOp .neq 45 (.agg #[.int .i64 a1, .int .i64 b1, .int .i64 c1, .string p1]) (.agg #[.int .i64 a2, .int .i64 b2, .int .i64 c2, .string p2])).run Tryz.prog w = .ok (.bool (!sameV a1 b1 c1 p1 a2 b2 c2 p2)) w := by
  rw [run_neq_struct, eqV]
  rfl
theorem eqlV (w : World) (a1 b1 c1 : Int) (p1 : ByteArray) (a2 b2 c2 : Int) (p2 : ByteArray) :
    (binOp .eql 45 (.agg #[.int .i64 a1, .int .i64 b1, .int .i64 c1, .string p1]) (.agg #[.int .i64 a2, .int .i64 b2, .int .i64 c2, .string p2])).run Tryz.prog w = .ok (.bool (sameV a1 b1 c1 p1 a2 b2 c2 p2)) w := by
  rw [run_eql_struct, eqV]
  rfl
theorem grdV (w : World) (op : BinOp) (x y : Operand) (xs ys : Array Value) : (eqGuard op 45 x y (.agg xs) (.agg ys)).run Tryz.prog w = .ok () w := run_eqGuard_agg w op 45 x y xs ys guardV
theorem sameV_iff (a1 b1 c1 : Int) (p1 : ByteArray) (a2 b2 c2 : Int) (p2 : ByteArray) : sameV a1 b1 c1 p1 a2 b2 c2 p2 = true ↔ a1 = a2 ∧ b1 = b2 ∧ c1 = c2 ∧ p1 = p2 := by
  unfold sameV
  simp only [Bool.and_eq_true, beq_iff_eq, ByteArray.toList_eq]
  constructor
  · rintro ⟨⟨⟨h1, h2⟩, h3⟩, h4⟩
    exact ⟨h1, h2, h3, by apply ByteArray.ext; apply Array.ext'; exact h4⟩
  · rintro ⟨h1, h2, h3, rfl⟩
    exact ⟨⟨⟨h1, h2⟩, h3⟩, rfl⟩

end Go.Proofs.YtbopliahafkecaaGreatDoor.Ver

/- Chapter 15: entries in a slice: how they lie, and what is sought; plain facts. -/
namespace Go.Proofs.YtbopliahafkecaaGreatDoor.Fe
open Go.RowKit Go.Proofs.YtbopliahafkecaaGreatDoor.Mem Go.Proofs.YtbopliahafkecaaGreatDoor.Laws Go.Proofs.YtbopliahafkecaaGreatDoor.Ver Go.Proofs.YtbopliahafkecaaGreatDoor.Ent
set_option linter.unusedVariables false
set_option linter.unusedSimpArgs false

/-- an entry in memory: its name's parts, the value of its needs, its needs -/
structure Ev where
  n : Nd
  u : Value
  l : List Nd
def ecs : List Ev → List Value
  | [] => []
  | x :: r => .string x.n.path :: .int .i64 x.n.a :: .int .i64 x.n.b :: .int .i64 x.n.c :: .string x.n.pre :: x.u :: ecs r
theorem ecs_len : ∀ l : List Ev, (ecs l).length = l.length * 6 := by
  intro l
  induction l with
  | nil => rfl
  | cons q r ih => simp [ecs, ih]; omega
theorem ecs_app (l m : List Ev) : ecs (l ++ m) = ecs l ++ ecs m := by
  induction l with
  | nil => rfl
  | cons q r ih => simp [ecs, ih]
theorem ecs_get : ∀ (l : List Ev) (k : Nat) (q : Ev), l[k]? = some q →
    (ecs l)[k * 6]? = some (.string q.n.path) ∧ (ecs l)[k * 6 + 1]? = some (.int .i64 q.n.a) ∧ (ecs l)[k * 6 + 2]? = some (.int .i64 q.n.b) ∧ (ecs l)[k * 6 + 3]? = some (.int .i64 q.n.c) ∧ (ecs l)[k * 6 + 4]? = some (.string q.n.pre) ∧ (ecs l)[k * 6 + 5]? = some q.u := by
  intro l
  induction l with
  | nil => intro k q h; simp at h
  | cons x r ih =>
    intro k q h
    cases k with
    | zero => simp at h; subst h; exact ⟨rfl, rfl, rfl, rfl, rfl, rfl⟩
    | succ k =>
      have := ih k q (by simpa using h)
      have e : (k + 1) * 6 = k * 6 + 6 := by omega
      rw [e]
      exact this
/-- v is a slice of these entries -/
def Se (w : World) (v : Value) (l : List Ev) : Prop := Sn 6 w v l.length (ecs l) ∧ ∀ x ∈ l, Sd w x.u x.l
theorem Se.later {w w' : World} {v : Value} {l : List Ev} (h : Se w v l) (b : Below w.heap.size w w') : Se w' v l := ⟨Sn.later h.1 b, fun x hx => Sd.later (h.2 x hx) b⟩
theorem Se.form {w : World} {v : Value} {l : List Ev} (h : Se w v l) : ∃ ao cap, v = .slice ao l.length cap ∧ l.length ≤ cap := by
  obtain ⟨⟨_, ao, cap, rfl, hc, _⟩, _⟩ := h
  exact ⟨ao, cap, rfl, hc⟩
/-- where an entry of a slice lies -/
theorem Se.at {w : World} {v : Value} {l : List Ev} (h : Se w v l) {k : Nat} {q : Ev} (hq : l[k]? = some q) : ∃ b off cap, v = .slice (some ⟨b, off, none⟩) l.length cap ∧ l.length ≤ cap ∧
    w.cell? ⟨b, off + k * 6, none⟩ = some (.string q.n.path) ∧ w.cell? ⟨b, off + k * 6 + 1, none⟩ = some (.int .i64 q.n.a) ∧ w.cell? ⟨b, off + k * 6 + 2, none⟩ = some (.int .i64 q.n.b) ∧ w.cell? ⟨b, off + k * 6 + 3, none⟩ = some (.int .i64 q.n.c) ∧ w.cell? ⟨b, off + k * 6 + 4, none⟩ = some (.string q.n.pre) ∧ w.cell? ⟨b, off + k * 6 + 5, none⟩ = some q.u ∧ Sd w q.u q.l := by
  have hk : k < l.length := (List.getElem?_eq_some_iff.1 hq).1
  obtain ⟨b, off, cap, rfl, hc, hr⟩ := Sn.at h.1 hk
  obtain ⟨h0, h1, h2, h3, h4, h5⟩ := ecs_get l k q hq
  refine ⟨b, off, cap, rfl, hc, ?_, ?_, ?_, ?_, ?_, ?_, h.2 q (List.mem_of_getElem? hq)⟩
  · have := hr 0 (by omega); rw [Nat.add_zero, h0] at this; exact this
  · have := hr 1 (by omega); rw [h1, ← Nat.add_assoc] at this; exact this
  · have := hr 2 (by omega); rw [h2, ← Nat.add_assoc] at this; exact this
  · have := hr 3 (by omega); rw [h3, ← Nat.add_assoc] at this; exact this
  · have := hr 4 (by omega); rw [h4, ← Nat.add_assoc] at this; exact this
  · have := hr 5 (by omega); rw [h5, ← Nat.add_assoc] at this; exact this

/-- is this the name that is sought -/
def isN (q n : Nd) : Bool := (n.path.toList == q.path.toList) && sameV n.a n.b n.c n.pre q.a q.b q.c q.pre
/-- the place of the first of this name -/
def at15 (q : Nd) : List Nd → Nat → Int
  | [], _ => -1
  | n :: r, k => if isN q n = true then (k : Int) else at15 q r (k + 1)
theorem at15_hit {q : Nd} : ∀ {l : List Nd} {k i : Nat} {n : Nd}, (∀ x ∈ l.take i, isN q x = false) → l[i]? = some n → isN q n = true → at15 q l k = ((k + i : Nat) : Int) := by
  intro l
  induction l with
  | nil => intro k i n _ h; simp at h
  | cons x r ih =>
    intro k i n h1 h2 h3
    cases i with
    | zero => simp at h2; subst h2; rw [at15, if_pos h3]; simp
    | succ i =>
      have hx := h1 x (by simp)
      rw [at15, if_neg (by rw [hx]; simp), ih (fun y hy => h1 y (by simp only [List.take_succ_cons, List.mem_cons]; exact .inr hy)) (by simpa using h2) h3]
      congr 1
      omega
theorem at15_none {q : Nd} : ∀ {l : List Nd} {k : Nat}, (∀ x ∈ l, isN q x = false) → at15 q l k = -1 := by
  intro l
  induction l with
  | nil => intro k _; rfl
  | cons x r ih => intro k h; rw [at15, if_neg (by rw [h x (List.mem_cons_self ..)]; simp)]; exact ih fun y hy => h y (List.mem_cons_of_mem _ hy)
/-- what the three functions answer -/
def find15 (q : Nd) (l : List Ev) : Option Ev := l.find? fun x => isN q x.n
def vers15 (p : ByteArray) (l : List Nd) : List Nd := l.filter fun x => x.path.toList == p.toList
def lack15 (l : List Nd) (s : List Nd) : List Nd := s.filter fun q => decide (at15 q l 0 < 0)
theorem take_snoc15 {α : Type} {l : List α} {k : Nat} {x : α} (h : l[k]? = some x) : l.take (k + 1) = l.take k ++ [x] := by
  rw [List.take_add_one, h]; rfl
theorem filter_snoc15 {α : Type} {l : List α} {k : Nat} {x : α} (f : α → Bool) (h : l[k]? = some x) : (l.take (k + 1)).filter f = if f x = true then (l.take k).filter f ++ [x] else (l.take k).filter f := by
  rw [take_snoc15 h, List.filter_append]
  cases hx : f x <;> simp [List.filter, hx]

end Go.Proofs.YtbopliahafkecaaGreatDoor.Fe

/- Chapter 15, the specification's side: where an entry is. -/
namespace Go.Proofs.YtbopliahafkecaaGreatDoor.Fe
open Go.RowKit Go.Proofs.YtbopliahafkecaaGreatDoor.Mem Go.Proofs.YtbopliahafkecaaGreatDoor.Laws Go.Proofs.YtbopliahafkecaaGreatDoor.Ver Go.Proofs.YtbopliahafkecaaGreatDoor.Ent
set_option linter.unusedVariables false
set_option linter.unusedSimpArgs false

end Go.Proofs.YtbopliahafkecaaGreatDoor.Fe

/- Chapter 15, the specification's side: what is lacking. -/
namespace Go.Proofs.YtbopliahafkecaaGreatDoor.Fe
open Go.RowKit Go.Proofs.YtbopliahafkecaaGreatDoor.Mem Go.Proofs.YtbopliahafkecaaGreatDoor.Laws Go.Proofs.YtbopliahafkecaaGreatDoor.Ver Go.Proofs.YtbopliahafkecaaGreatDoor.Ent
set_option linter.unusedVariables false
set_option linter.unusedSimpArgs false

theorem Od.up {w w' : World} {lo : Nat} {v : Value} {l : List Nd} (h : Od w lo w.heap.size v l) (b : Below w.heap.size w w') : Od w' lo w'.heap.size v l := On.mono (On.later h b (Nat.le_refl _)) (Nat.le_refl _) b.size
theorem Od.snoc {w : World} {lo hi : Nat} {v : Value} {l : List Nd} {n : Nd} (o : On 5 w lo hi 47 v (l.length + 1) (nds l ++ n.cs)) : Od w lo hi v (l ++ [n]) := by
  unfold Od
  rw [nds_snoc, List.length_append]
  exact o
theorem cs_oneN (n : Nd) : ∀ u ∈ n.cs, u.oneCell' = true := by
  intro u hu
  simp only [Nd.cs, List.mem_cons, List.not_mem_nil, or_false] at hu
  rcases hu with rfl | rfl | rfl | rfl | rfl <;> rfl

end Go.Proofs.YtbopliahafkecaaGreatDoor.Fe

/- Chapter 17, the specification's side: what a lock's text says. -/
namespace Go.Proofs.YtbopliahafkecaaGreatDoor.Lk
open Go.RowKit Go.Proofs.YtbopliahafkecaaGreatDoor.Mem Go.Proofs.YtbopliahafkecaaGreatDoor.Laws Go.Proofs.YtbopliahafkecaaGreatDoor.Bytes Go.Proofs.YtbopliahafkecaaGreatDoor.Sha Go.Proofs.YtbopliahafkecaaGreatDoor.Ver Go.Proofs.YtbopliahafkecaaGreatDoor.Mod Go.Proofs.YtbopliahafkecaaGreatDoor.Ent Go.Proofs.YtbopliahafkecaaGreatDoor.He Go.Proofs.YtbopliahafkecaaGreatDoor.Fe
set_option linter.unusedVariables false
set_option linter.unusedSimpArgs false

/-- needs that are owned, and where that ends -/
def Odp (w : World) (lo hi : Nat) (v : Value) (l : List Nd) : Prop := Od w lo hi v l ∧ hi ≤ w.heap.size
theorem Odp.later {w w' : World} {lo hi : Nat} {v : Value} {l : List Nd} (h : Odp w lo hi v l) (b : Below w.heap.size w w') : Odp w' lo hi v l := ⟨On.later h.1 b h.2, Nat.le_trans h.2 b.size⟩
/-- a block holds these texts -/
def Lns (w : World) (g : Nat) (l : List ByteArray) : Prop := ∀ j t, l[j]? = some t → w.cell? ⟨g, j, none⟩ = some (.string t)
theorem Lns.later {w w' : World} {g : Nat} {l : List ByteArray} (h : Lns w g l) (b : Below w.heap.size w w') : Lns w' g l := fun j t e => keepR (h j t e) b
theorem res_h3 {P : Program} {fn : Func} {p q u : Tmp} {ty : TypeId} (h : fn.results = #[.cell p ty, .tmp q, .tmp u]) (tmps : Array Value) (w : World) (g1 : Nat) (t : TypeId) (c1 : Array Value) (fr : Nat × Nat) (d : TypeDesc)
    (hp : tmps.getD p undef = .pointer (some ⟨g1, 0, none⟩)) (hg1 : w.heap[g1]? = some (.cells c1 t fr))
    (hu : P.underlying ty = some d) (hd : (match d with | .struct _ | .array _ _ => true | _ => false) = true) (hi1 : (P.info? ty).map (·.size) = some c1.size) :
    (results fn tmps).run P w = .ok (.tuple #[.agg c1, tmps.getD q undef, tmps.getD u undef]) w := by
  have hp' : tmps[p]?.getD undef = .pointer (some ⟨g1, 0, none⟩) := by simpa using hp
  simp [results, h, hp', asAddr, run_loadVar_row w g1 t ty c1 fr d hg1 hu hd hi1]
theorem unhex_len : ∀ (n : Nat) (l r : List Int), l.length ≤ n → unhex l = some r → r.length ≤ l.length := by
  intro n
  induction n with
  | zero =>
    intro l r hl h
    have : l = [] := List.eq_nil_of_length_eq_zero (by omega)
    subst this
    rw [unhex] at h
    cases h
    exact Nat.le_refl _
  | succ n ih =>
    intro l r hl h
    match l, hl, h with
    | [], _, h => rw [unhex] at h; cases h; exact Nat.le_refl _
    | [_], _, h => rw [unhex] at h; cases h
    | a :: b :: t, hl, h =>
      by_cases hb : undig a < 0 ∨ undig b < 0
      · rw [unhex_bad hb] at h; cases h
      · rw [unhex_good hb] at h
        obtain ⟨q, hq, rfl⟩ := Option.map_eq_some_iff.1 h
        have := ih t q (by simp at hl; omega) hq
        simp
        omega
theorem unHex_size (s : ByteArray) : (unHex s).1.size ≤ s.size := by
  cases h : unhex (sb s) with
  | none => rw [unHex_none h]; exact Nat.zero_le _
  | some l => rw [unHex_some h, txt_sizev]; have := unhex_len _ _ _ (Nat.le_refl _) h; rw [sb_len] at this; exact this
theorem splitT_pos (b : Int) (s : ByteArray) : 0 < (splitT b s).length := by unfold splitT split; rw [List.length_map]; exact splitL_pos b (sb s) []
theorem word0_eq {t : ByteArray} (h : t.toList = [105, 110, 100, 101, 120]) : t = Plain.txt word0 := by
  have h2 : (⟨#[105, 110, 100, 101, 120]⟩ : ByteArray).toList = [105, 110, 100, 101, 120] := by simp
  refine (eqT_iff _ _).1 ?_
  show (t.toList == (⟨#[105, 110, 100, 101, 120]⟩ : ByteArray).toList) = true
  rw [h, h2]
  rfl
theorem word0_ne {t : ByteArray} (h : ¬ t.toList = [105, 110, 100, 101, 120]) : t ≠ Plain.txt word0 := by
  rintro rfl
  exact h (by show (⟨#[105, 110, 100, 101, 120]⟩ : ByteArray).toList = _; simp)
theorem headD_at {l : List ByteArray} {t e : ByteArray} (h : l[0]? = some t) : l.headD e = t := by
  cases l with
  | nil => cases h
  | cons a r => simpa using h
theorem mid_len (L : List ByteArray) : L.tail.dropLast.length = L.length - 2 := by rw [List.length_dropLast, List.length_tail]; omega
theorem mid_at {L : List ByteArray} {j : Nat} (h1 : 1 ≤ j) (h2 : j - 1 < L.tail.dropLast.length) : ∃ t, L[j]? = some t ∧ L.tail.dropLast[j - 1]? = some t := by
  have h3 := h2
  rw [mid_len] at h3
  refine ⟨L[j], List.getElem?_eq_getElem (by omega), ?_⟩
  rw [List.getElem?_eq_getElem h2, List.getElem_dropLast, List.getElem_tail]
  congr 2
  omega
theorem takeM {M : List ByteArray} {k : Nat} {t : ByteArray} (h : M[k]? = some t) : M.take (k + 1) = M.take k ++ [t] := by rw [List.take_add_one, h]; rfl
theorem form_1 {s : ByteArray} (h : (words17 s).length ≠ 3) : parse s = none17 := by
  unfold parse; rw [if_neg]; rintro ⟨h1, _⟩; unfold form17 at h1; simp only [Bool.and_eq_true, decide_eq_true_eq] at h1; exact h h1.1.1
theorem form_2 {s t : ByteArray} (h : (words17 s)[0]? = some t) (ht : t ≠ Plain.txt word0) : parse s = none17 := by
  unfold parse; rw [if_neg]; rintro ⟨h1, _⟩; unfold form17 at h1; simp only [Bool.and_eq_true, decide_eq_true_eq] at h1
  have h2 := h1.1.2; rw [List.head?_eq_getElem?, h] at h2; exact ht (Option.some.inj h2)
theorem form_3 {s t : ByteArray} (h : (splitT 10 s)[(splitT 10 s).length - 1]? = some t) (ht : t ≠ ⟨#[]⟩) : parse s = none17 := by
  unfold parse; rw [if_neg]; rintro ⟨h1, _⟩; unfold form17 at h1; simp only [Bool.and_eq_true, decide_eq_true_eq] at h1
  have h2 := h1.2; rw [List.getLast?_eq_getElem?, h] at h2; exact ht (Option.some.inj h2)
theorem form_yes {s : ByteArray} (h1 : (words17 s).length = 3) (h2 : (words17 s)[0]? = some (Plain.txt word0)) (h3 : (splitT 10 s)[(splitT 10 s).length - 1]? = some ⟨#[]⟩) : form17 s = true := by
  unfold form17; rw [List.head?_eq_getElem?, h2, List.getLast?_eq_getElem?, h3, h1]; simp
theorem parse_bad {s : ByteArray} (h : good17 s = false) : parse s = none17 := by unfold parse; rw [if_neg]; rintro ⟨_, h2, _⟩; rw [h] at h2; cases h2
theorem parse_other {s : ByteArray} (h : lock (head17 s) (list17 s) ≠ s) : parse s = none17 := by unfold parse; rw [if_neg]; rintro ⟨_, _, h2⟩; exact h h2
theorem parse_yes {s : ByteArray} (h1 : form17 s = true) (h2 : good17 s = true) (h3 : lock (head17 s) (list17 s) = s) : parse s = (head17 s, list17 s, true) := by unfold parse; rw [if_pos ⟨h1, h2, h3⟩]

set_option maxRecDepth 1000000 in
set_option maxHeartbeats 8000000 in
theorem parse_spec (w : World) (s : ByteArray) (hs : s.size ≤ 1048576) :
    Calls Tryz.prog 11 #[.string s] w fun e w' => ∃ v', e = .returned (.tuple #[.agg #[.int .i64 (parse s).1.n, .string (parse s).1.r], v', .bool (parse s).2.2]) ∧ Od w' w.heap.size w'.heap.size v' (parse s).2.1 ∧ Below w.heap.size w w' := by
  obtain ⟨i0, hi, hz0, hz1, hz2⟩ := info_parts infoN
  obtain ⟨L, hL⟩ : ∃ L, splitT 10 s = L := ⟨_, rfl⟩
  have HL : Hid (splitT 10 s = L) := hL
  have hLp : 0 < L.length := by rw [← hL]; exact splitT_pos 10 s
  obtain ⟨m, hm⟩ : ∃ m, L.length = m + 1 := ⟨L.length - 1, by omega⟩
  have hm2 : m ≤ 1048576 := by have := splitT_len 10 s; rw [hL] at this; omega
  have HLz : Hid (∀ t ∈ L, t.size ≤ s.size) := by have h := splitT_size 10 s; rw [hL] at h; exact h
  obtain ⟨t0, ht0⟩ : ∃ t, L[0]? = some t := ⟨L[0], by simp [hLp]⟩
  obtain ⟨tl, htl⟩ : ∃ t, L[m]? = some t := ⟨L[m], by simp [hm]⟩
  have ht0z : t0.size ≤ s.size := HLz.out t0 (List.mem_of_getElem? ht0)
  have HT0 : Hid (L[0]? = some t0) := ht0
  have HTL : Hid (L[m]? = some tl) := htl
  have HM : Hid (L.length = m + 1) := hm
  obtain ⟨D, hD⟩ : ∃ D, splitT 32 t0 = D := ⟨_, rfl⟩
  have HD : Hid (splitT 32 t0 = D) := hD
  have HW17 : Hid (words17 s = D) := by show _ = _; unfold words17; rw [hL, headD_at ht0, hD]
  have hDp : 0 < D.length := by rw [← hD]; exact splitT_pos 32 t0
  have hDn : D.length ≤ 1048577 := by have := splitT_len 32 t0; rw [hD] at this; omega
  have HDz : Hid (∀ t ∈ D, t.size ≤ s.size) := by show ∀ t ∈ D, _; intro t ht; have h := splitT_size 32 t0; rw [hD] at h; exact Nat.le_trans (h t ht) ht0z
  clear ht0 htl hm
  have B0 : Hid (Below w.heap.size w w) := Below.refl _ _
  obtain ⟨W1, HW1, b1, y1, hS1, r_res1⟩ := Ke.l1 w #[.int .i64 0, .string ⟨#[]⟩] 25
  have z1 := b1.size
  have B1 := Ke.b B0 b1
  have c_res1 := Ke.c r_res1
  have a_res1 := Ke.a r_res1
  obtain ⟨W2, HW2, b2, hS2, l_no2⟩ : ∃ X, Hid ((W1.alloc (.cells #[] 47)) = X) ∧ Below W1.heap.size W1 X ∧ Hid (X.heap.size = w.heap.size + 1 + 1) ∧ Hid (Odp X W1.heap.size X.heap.size (.slice (some ⟨w.heap.size + 1, 0, none⟩) 0 0) []) := ⟨_, rfl, (Below.refl _ _).alloc (Nat.le_refl _) _, (by show _ = _; rw [← hS1.out]; simp), (by show Odp _ _ _ _ _; have h := (⟨On.lit 5 W1 W1.heap.size 47 (Nat.le_refl _), Nat.le_refl _⟩ : Odp (W1.alloc (.cells #[] 47)) W1.heap.size (W1.alloc (.cells #[] 47)).heap.size (.slice (some ⟨W1.heap.size, 0, none⟩) 0 0) []); rw [hS1.out] at h ⊢; exact h)⟩
  have z2 := b2.size
  have B2 := Ke.b B1 b2
  have r_res2 := Ke.r r_res1 b2
  have c_res2 := Ke.c r_res2
  clear r_res1 c_res1
  have f_no2 : Hid (Odp W2 W1.heap.size W2.heap.size (.slice (some ⟨w.heap.size + 1, 0, none⟩) 0 0) []) := l_no2
  clear l_no2
  go_enter Tryz.func11, Tryz.ntmps11
  go_wp2_with fail
  rw [HW1.out, HW2.out]
  clear a_res1
  refine (split_spec W2 s 10 (by omega) (by omega) (by omega)).mono ?_
  rintro e W3 ⟨v9, rfl, o9, b3⟩
  rw [hL] at o9
  obtain ⟨g1, cap1, e9, _, _, hc9, hx9⟩ := ownForm o9 (by rw [ss_len]; omega)
  rw [ss_len, HM.out] at e9
  subst e9
  have z3 := b3.size
  have B3 := Ke.b B2 b3
  have r_res3 := Ke.r r_res2 b3
  have c_res3 := Ke.c r_res3
  clear r_res2 c_res2
  have f_no3 : Hid (Odp W3 W1.heap.size W2.heap.size (.slice (some ⟨w.heap.size + 1, 0, none⟩) 0 0) []) := Odp.later f_no2.out b3
  clear f_no2
  have f_L3 : Hid (Lns W3 g1 L) := (fun j t e => (hx9 j (by rw [ss_len]; exact (List.getElem?_eq_some_iff.1 e).1)).trans (by rw [ss_get, e]; rfl))
  clear o9 hc9 hx9
  have hmp : (0 : Int) < ((m + 1 : Nat) : Int) := by omega
  have k0 := f_L3.out 0 t0 HT0.out
  go_wp2_with fail
  refine (split_spec W3 t0 32 (by omega) (by omega) (by omega)).mono ?_
  rintro e W4 ⟨v9, rfl, o9, b4⟩
  rw [hD] at o9
  obtain ⟨g2, cap2, e9, _, _, hc9, hx9⟩ := ownForm o9 (by rw [ss_len]; omega)
  rw [ss_len] at e9
  subst e9
  have z4 := b4.size
  have B4 := Ke.b B3 b4
  have r_res4 := Ke.r r_res3 b4
  have c_res4 := Ke.c r_res4
  clear r_res3 c_res3
  have f_no4 : Hid (Odp W4 W1.heap.size W2.heap.size (.slice (some ⟨w.heap.size + 1, 0, none⟩) 0 0) []) := Odp.later f_no3.out b4
  have f_L4 : Hid (Lns W4 g1 L) := Lns.later f_L3.out b4
  clear f_no3 f_L3
  have f_D4 : Hid (Lns W4 g2 D) := (fun j t e => (hx9 j (by rw [ss_len]; exact (List.getElem?_eq_some_iff.1 e).1)).trans (by rw [ss_get, e]; rfl))
  clear o9 hc9 hx9
  clear k0 hL hD
  by_cases h3 : D.length = 3
  · obtain ⟨w0, hw0⟩ : ∃ t, D[0]? = some t := ⟨D[0], by simp [h3]⟩
    obtain ⟨w1, hw1⟩ : ∃ t, D[1]? = some t := ⟨D[1], by simp [h3]⟩
    obtain ⟨w2, hw2⟩ : ∃ t, D[2]? = some t := ⟨D[2], by simp [h3]⟩
    have hw1z := HDz.out w1 (List.mem_of_getElem? hw1)
    have hw2z := HDz.out w2 (List.mem_of_getElem? hw2)
    have HW0 : Hid (D[0]? = some w0) := hw0
    have HW1 : Hid (D[1]? = some w1) := hw1
    have HW2 : Hid (D[2]? = some w2) := hw2
    clear hw0 hw1 hw2
    have H3 : Hid (D.length = 3) := h3
    rw [h3]
    clear h3
    obtain ⟨E1, hE1⟩ : ∃ E, tl.toList.isEmpty = E := ⟨_, rfl⟩
    have k0 := f_D4.out 0 w0 HW0.out
    have kl := f_L4.out m tl HTL.out
    have e5 : IntKind.i64.wrap (((m + 1 : Nat) : Int) - 1) = (m : Int) := by rw [IntKind.wrap_i64]; omega
    have hmm : (m : Int) < ((m + 1 : Nat) : Int) := by omega
    by_cases hE0 : w0.toList = [105, 110, 100, 101, 120]
    · have HE0 : Hid (w0 = Plain.txt word0) := word0_eq hE0
      cases E1
      · have HN : Hid (parse s = none17) := form_3 (by rw [HL.out, HM.out]; exact HTL.out) (by intro h9; rw [h9, toList_empty] at hE1; exact absurd hE1 (by decide))
        go_wp2_with (refine wpList_store_row rfl 25 _ _ rfl (w.heap.size) (hc hd0) rfl rfl 25 _ r_res4.out (sizeH _) rfl (oneH _) ?_)
        refine bodyPost_ret (res_h3 rfl _ _ (w.heap.size) 25 (hc hd0) (0, 0) _ rfl (setRow_heap _ _ _ _ _ (0, 0) r_res4.out) Tryz.underlying25 rfl (sizeH _)) rfl ⟨.slice (some ⟨w.heap.size + 1, 0, none⟩) 0 0, by rw [HN.out]; rfl, ?_, below_setRow B4.out (by omega) _⟩
        rw [HN.out]
        have hb := B4.out.size
        exact On.mono (On.keep f_no4.out.1 fun j h1 h2 => setRow_other _ _ _ _ (by omega)) (by omega) (by rw [size_setRow]; exact f_no4.out.2)
      · have HE1 : Hid (tl = ⟨#[]⟩) := by have h9 := hE1; rw [toList_empty] at h9; exact nilB (of_decide_eq_true h9)
        have HF : Hid (form17 s = true) := form_yes (by rw [HW17.out]; exact H3.out) (by rw [HW17.out, HW0.out, HE0.out]) (by rw [HL.out, HM.out, ← HE1.out]; exact HTL.out)
        obtain ⟨rt, ok0, hrt⟩ : ∃ a b, unHex w2 = (a, b) := ⟨_, _, rfl⟩
        have q3 := unhex_spec W4 w2 (by omega)
        have hrz := unHex_size w2
        rw [hrt] at q3 hrz
        simp only at q3 hrz
        have HR17 : Hid (root17 s = (rt, ok0)) := by show _ = _; unfold root17; rw [HW17.out, List.getD_eq_getElem?_getD, HW2.out]; exact hrt
        have k2 := f_D4.out 2 w2 HW2.out
        clear hrt
        go_wp2_with fail
        refine (q3).mono ?_
        rintro e W5 ⟨rfl, b5⟩
        have z5 := b5.size
        have B5 := Ke.b B4 b5
        have r_res5 := Ke.r r_res4 b5
        have c_res5 := Ke.c r_res5
        clear r_res4 c_res4
        have f_no5 : Hid (Odp W5 W1.heap.size W2.heap.size (.slice (some ⟨w.heap.size + 1, 0, none⟩) 0 0) []) := Odp.later f_no4.out b5
        have f_L5 : Hid (Lns W5 g1 L) := Lns.later f_L4.out b5
        have f_D5 : Hid (Lns W5 g2 D) := Lns.later f_D4.out b5
        clear f_no4 f_L4 f_D4
        clear q3 k0 kl k2 hE0 hE1
        obtain ⟨N, hN⟩ : ∃ N, number (sb w1) = N := ⟨_, rfl⟩
        have q4 := number_spec W5 w1 (by omega)
        rw [hN] at q4
        have HS17 : Hid (size17 s = N) := by show _ = _; unfold size17; rw [HW17.out, List.getD_eq_getElem?_getD, HW1.out]; exact hN
        clear hN
        have k1 := f_D5.out 1 w1 HW1.out
        go_wp2_with fail
        refine q4.mono ?_
        rintro e W_ ⟨rfl, hW_⟩
        subst hW_
        clear q4 k1
        have HHD : Hid (head17 s = ⟨N, rt⟩) := by show _ = _; unfold head17; rw [HS17.out, HR17.out]
        obtain ⟨M, hMd⟩ : ∃ M, L.tail.dropLast = M := ⟨_, rfl⟩
        have HMd : Hid (L.tail.dropLast = M) := hMd
        have hML : M.length = m - 1 := by rw [← hMd, mid_len, HM.out]; omega
        have HM17 : Hid (mid17 s = M) := by show _ = _; unfold mid17; rw [HL.out, hMd]
        have HMz : Hid (∀ t ∈ M, t.size ≤ s.size) := by show ∀ t ∈ M, _; intro t ht; rw [← hMd] at ht; exact HLz.out t (List.mem_of_mem_tail (List.dropLast_subset _ ht))
        clear hMd
        have a_res5 := Ke.a r_res5
        obtain ⟨W6, HW6, b6, y6, hS6, r_h6⟩ := Ke.l1 W5 #[.int .i64 N, .string rt] 25
        have z6 := b6.size
        have B6 := Ke.b B5 b6
        have r_res6 := Ke.r r_res5 b6
        have c_res6 := Ke.c r_res6
        have c_h6 := Ke.c r_h6
        clear r_res5 c_res5
        have f_no6 : Hid (Odp W6 W1.heap.size W2.heap.size (.slice (some ⟨w.heap.size + 1, 0, none⟩) 0 0) []) := Odp.later f_no5.out b6
        have f_L6 : Hid (Lns W6 g1 L) := Lns.later f_L5.out b6
        have f_D6 : Hid (Lns W6 g2 D) := Lns.later f_D5.out b6
        clear f_no5 f_L5 f_D5
        have K_res : Hid (W6.heap[w.heap.size]? = some (.cells #[.int .i64 0, .string ⟨#[]⟩] 25 (0, 0))) := r_res6
        have K_h : Hid (W6.heap[W5.heap.size]? = some (.cells #[.int .i64 N, .string rt] 25 (0, 0))) := r_h6
        have K_B : Hid (Below w.heap.size w W6) := B6
        have K_L : Hid (Lns W6 g1 L) := f_L6
        have K_no : Hid (Odp W6 W1.heap.size W2.heap.size (.slice (some ⟨w.heap.size + 1, 0, none⟩) 0 0) []) := f_no6
        have a_res6 := Ke.a r_res6
        have a_h6 := Ke.a r_h6
        obtain ⟨W7, HW7, b7, hS7, l_li7⟩ : ∃ X, Hid ((W6.alloc (.cells #[] 47)) = X) ∧ Below W6.heap.size W6 X ∧ Hid (X.heap.size = W5.heap.size + 1 + 1) ∧ Hid (Odp X W6.heap.size X.heap.size (.slice (some ⟨W5.heap.size + 1, 0, none⟩) 0 0) []) := ⟨_, rfl, (Below.refl _ _).alloc (Nat.le_refl _) _, (by show _ = _; rw [← hS6.out]; simp), (by show Odp _ _ _ _ _; have h := (⟨On.lit 5 W6 W6.heap.size 47 (Nat.le_refl _), Nat.le_refl _⟩ : Odp (W6.alloc (.cells #[] 47)) W6.heap.size (W6.alloc (.cells #[] 47)).heap.size (.slice (some ⟨W6.heap.size, 0, none⟩) 0 0) []); rw [hS6.out] at h ⊢; exact h)⟩
        have z7 := b7.size
        have B7 := Ke.b B6 b7
        have r_res7 := Ke.r r_res6 b7
        have r_h7 := Ke.r r_h6 b7
        have c_res7 := Ke.c r_res7
        have c_h7 := Ke.c r_h7
        clear r_res6 c_res6 r_h6 c_h6
        have f_no7 : Hid (Odp W7 W1.heap.size W2.heap.size (.slice (some ⟨w.heap.size + 1, 0, none⟩) 0 0) []) := Odp.later f_no6.out b7
        have f_L7 : Hid (Lns W7 g1 L) := Lns.later f_L6.out b7
        have f_D7 : Hid (Lns W7 g2 D) := Lns.later f_D6.out b7
        clear f_no6 f_L6 f_D6
        go_wp2_with fail
        rw [HW6.out, HW7.out]
        clear a_res5 a_res6 a_h6
        go_loopw [9, 11, 12] (fun ov lv iv wr => ∃ (j : Nat) (R : List Nd) (b : Bool), ov = .bool b ∧ iv = .int .i64 (j : Int) ∧ 1 ≤ j ∧ j ≤ M.length + 1 ∧ Hid (R = (M.take (j - 1)).map need1) ∧ Hid (b = (ok0 && (M.take (j - 1)).all fun t => (pname t).2)) ∧ Hid (Od wr W6.heap.size wr.heap.size lv R) ∧ Hid (Below W6.heap.size W6 wr)) (fun _ _ iv _ => M.length + 1 - (intOf iv).toNat)
        case atStart => exact ⟨1, [], ok0, rfl, rfl, Nat.le_refl _, by omega, (by show _ = _; simp), (by show _ = _; simp), l_li7.out.1, b7⟩
        case round =>
          obtain ⟨j, R, b, rfl, rfl, hj1, hj2, HR, HB, HO, D8⟩ := hrel
          obtain ⟨W8, hW8⟩ : ∃ X, X = wr := ⟨_, rfl⟩
          subst hW8
          clear r_res7 c_res7 r_h7 c_h7 B7 f_L7 f_D7 f_no7 l_li7
          have B8 : Hid (Below w.heap.size w W8) := K_B.out.trans (D8.out.mono K_B.out.size)
          have z8 : W6.heap.size ≤ W8.heap.size := D8.out.size
          have r_res8 : Hid (W8.heap[w.heap.size]? = some (.cells #[.int .i64 0, .string ⟨#[]⟩] 25 (0, 0))) := rowKeep K_res.out D8.out
          have r_h8 : Hid (W8.heap[W5.heap.size]? = some (.cells #[.int .i64 N, .string rt] 25 (0, 0))) := rowKeep K_h.out D8.out
          have c_res8 := Ke.c r_res8
          have c_h8 := Ke.c r_h8
          have f_L8 : Hid (Lns W8 g1 L) := Lns.later K_L.out D8.out
          have f_no8 : Hid (Odp W8 W1.heap.size W2.heap.size (.slice (some ⟨w.heap.size + 1, 0, none⟩) 0 0) []) := Odp.later K_no.out D8.out
          obtain ⟨aoR, capR, hrv⟩ := on_slice5 HO.out
          subst hrv
          have f_li8 : Hid (Odp W8 W6.heap.size W8.heap.size (.slice aoR R.length capR) R) := ⟨HO.out, Nat.le_refl _⟩
          clear HO
          have hRl : R.length ≤ 1048576 := by have h9 := congrArg List.length HR.out; rw [List.length_map, List.length_take] at h9; omega
          by_cases hlt : j < M.length + 1
          · have hlt2 : (j : Int) < (m : Int) := by omega
            have hjm : (j : Int) < ((m + 1 : Nat) : Int) := by omega
            obtain ⟨t, ht, ht2⟩ := mid_at (L := L) hj1 (by rw [HMd.out]; omega)
            rw [HMd.out] at ht2
            have kt := f_L8.out j t ht
            have htz := HMz.out t (List.mem_of_getElem? ht2)
            obtain ⟨x, gd, hx⟩ : ∃ x gd, pname t = (x, gd) := ⟨_, _, rfl⟩
            have q7 := pname_spec W8 t (by omega)
            rw [hx] at q7
            simp only at q7
            have HTk : Hid (M.take (j + 1 - 1) = M.take (j - 1) ++ [t]) := by show _ = _; rw [show j + 1 - 1 = (j - 1) + 1 by omega]; exact takeM ht2
            have HR2 : Hid (R ++ [x] = (M.take (j + 1 - 1)).map need1) := by show _ = _; rw [HTk.out, List.map_append, ← HR.out]; simp [need1, hx]
            have HB2 : Hid ((b && gd) = (ok0 && (M.take (j + 1 - 1)).all fun t => (pname t).2)) := by show _ = _; rw [HTk.out, List.all_append, ← Bool.and_assoc, ← HB.out]; simp [hx]
            clear hx ht ht2 HR HB HTk
            go_wp2_with fail
            refine (q7).mono ?_
            rintro e W9 ⟨rfl, b9⟩
            have z9 := b9.size
            have B9 := Ke.b B8 b9
            have r_res9 := Ke.r r_res8 b9
            have r_h9 := Ke.r r_h8 b9
            have c_res9 := Ke.c r_res9
            have c_h9 := Ke.c r_h9
            clear r_res8 c_res8 r_h8 c_h8
            have f_L9 : Hid (Lns W9 g1 L) := Lns.later f_L8.out b9
            have f_no9 : Hid (Odp W9 W1.heap.size W2.heap.size (.slice (some ⟨w.heap.size + 1, 0, none⟩) 0 0) []) := Odp.later f_no8.out b9
            have f_li9 : Hid (Odp W9 W6.heap.size W8.heap.size (.slice aoR R.length capR) R) := Odp.later f_li8.out b9
            clear f_L8 f_no8 f_li8
            clear q7 kt
            have a_res9 := Ke.a r_res9
            have a_h9 := Ke.a r_h9
            obtain ⟨W10, HW10, b10, y10, hS10, r_n10⟩ := Ke.l1 W9 #[.string x.path, .int .i64 x.a, .int .i64 x.b, .int .i64 x.c, .string x.pre] 47
            have z10 := b10.size
            have B10 := Ke.b B9 b10
            have r_res10 := Ke.r r_res9 b10
            have r_h10 := Ke.r r_h9 b10
            have c_res10 := Ke.c r_res10
            have c_h10 := Ke.c r_h10
            have c_n10 := Ke.c r_n10
            clear r_res9 c_res9 r_h9 c_h9
            have f_L10 : Hid (Lns W10 g1 L) := Lns.later f_L9.out b10
            have f_no10 : Hid (Odp W10 W1.heap.size W2.heap.size (.slice (some ⟨w.heap.size + 1, 0, none⟩) 0 0) []) := Odp.later f_no9.out b10
            have f_li10 : Hid (Odp W10 W6.heap.size W8.heap.size (.slice aoR R.length capR) R) := Odp.later f_li9.out b10
            clear f_L9 f_no9 f_li9
            have x0 : W10.cell? ⟨W9.heap.size, 0, none⟩ = some (.string x.path) := (by exact row_at r_n10.out 0)
            have x1 : W10.cell? ⟨W9.heap.size, 1, none⟩ = some (.int .i64 x.a) := (by exact row_at r_n10.out 1)
            have x2 : W10.cell? ⟨W9.heap.size, 2, none⟩ = some (.int .i64 x.b) := (by exact row_at r_n10.out 2)
            have x3 : W10.cell? ⟨W9.heap.size, 3, none⟩ = some (.int .i64 x.c) := (by exact row_at r_n10.out 3)
            have x4 : W10.cell? ⟨W9.heap.size, 4, none⟩ = some (.string x.pre) := (by exact row_at r_n10.out 4)
            rw [← HW10.out] at x0 x1 x2 x3 x4
            have k1 : R.length + 1 ≤ maxLen := by unfold maxLen; omega
            have k2 : (R.length + 1) * 56 ≤ 140737488355328 := by omega
            have k3 : ∀ ob, W6.heap.size ≤ (W10.alloc ob).heap.size := fun ob => by simp; omega
            have O2 : ∀ ob, On 5 (W10.alloc ob) W6.heap.size (W10.alloc ob).heap.size 47 (.slice aoR R.length capR) R.length (nds R) := fun ob => On.alloc (On.mono f_li10.out.1 (Nat.le_refl _) f_li10.out.2) ob
            have L2 : Hid (Sn 5 (W10.alloc (.cells (nc x) 47)) (.slice (some ⟨W9.heap.size + 1, 0, none⟩) 1 1) 1 x.cs) := by show Sn _ _ _ _ _; have h := Sn.one 5 W10 (nc x) 47 rfl; rw [hS10.out] at h; exact h
            have DD : Below W6.heap.size W6 W10 := (D8.out.trans (b9.mono (by omega))).trans (b10.mono (by omega))
            cases b
            · go_wp2_with (at_builtin; (try rw [HW10.out]); go_must (refine wpl_appn 5 (by omega) _ rfl (.tmp 75) (.tmp 77) 26 rfl 47 i0 (.agg #[.string ⟨#[]⟩, .int .i64 0, .int .i64 0, .int .i64 0, .string ⟨#[]⟩]) 56 Tryz.underlying26 hi hz0 hz1 hz2 rfl W6.heap.size _ R.length (nds R) rfl (O2 _) _ rfl 1 x.cs L2.out (cs_oneN x) k1 k2 (k3 _) ?_))
              intro v0 W0 o0 b0 _
              have D0 : Hid (Below W6.heap.size W6 W0) := (DD.alloc DD.size _).trans b0
              have HO0 : Hid (Od W0 W6.heap.size W0.heap.size v0 (R ++ [x])) := Od.snoc o0
              clear o0 b0 O2 L2 x0 x1 x2 x3 x4
              go_wp2
              go_roundw
              case rel => exact ⟨j + 1, R ++ [x], _, rfl, by go_num, by omega, by omega, HR2, HB2, HO0, D0⟩
              case measure => simp [intOf]; omega
            · go_wp2_with (at_builtin; (try rw [HW10.out]); go_must (refine wpl_appn 5 (by omega) _ rfl (.tmp 75) (.tmp 77) 26 rfl 47 i0 (.agg #[.string ⟨#[]⟩, .int .i64 0, .int .i64 0, .int .i64 0, .string ⟨#[]⟩]) 56 Tryz.underlying26 hi hz0 hz1 hz2 rfl W6.heap.size _ R.length (nds R) rfl (O2 _) _ rfl 1 x.cs L2.out (cs_oneN x) k1 k2 (k3 _) ?_))
              intro v0 W0 o0 b0 _
              have D0 : Hid (Below W6.heap.size W6 W0) := (DD.alloc DD.size _).trans b0
              have HO0 : Hid (Od W0 W6.heap.size W0.heap.size v0 (R ++ [x])) := Od.snoc o0
              clear o0 b0 O2 L2 x0 x1 x2 x3 x4
              go_wp2
              go_roundw
              case rel => exact ⟨j + 1, R ++ [x], _, rfl, by go_num, by omega, by omega, HR2, HB2, HO0, D0⟩
              case measure => simp [intOf]; omega
          · have hlt2 : ¬ (j : Int) < (m : Int) := by omega
            have HLI : Hid (list17 s = R) := by show _ = _; unfold list17; rw [HM17.out, HR.out, List.take_of_length_le (by omega)]
            have HGD : Hid (good17 s = b) := by show _ = _; unfold good17; rw [HM17.out, HR17.out, HB.out, List.take_of_length_le (by omega)]
            clear HR HB
            cases b
            · have HN : Hid (parse s = none17) := parse_bad HGD.out
              go_wp2_with (refine wpList_store_row rfl 25 _ _ rfl (w.heap.size) (hc hd0) rfl rfl 25 _ r_res8.out (sizeH _) rfl (oneH _) ?_)
              refine bodyPost_ret (res_h3 rfl _ _ (w.heap.size) 25 (hc hd0) (0, 0) _ rfl (setRow_heap _ _ _ _ _ (0, 0) r_res8.out) Tryz.underlying25 rfl (sizeH _)) rfl ⟨.slice (some ⟨w.heap.size + 1, 0, none⟩) 0 0, by rw [HN.out]; rfl, ?_, below_setRow B8.out (by omega) _⟩
              rw [HN.out]
              have hb := B8.out.size
              exact On.mono (On.keep f_no8.out.1 fun j h1 h2 => setRow_other _ _ _ _ (by omega)) (by omega) (by rw [size_setRow]; exact f_no8.out.2)
            · have q5 := lock_spec W8 ⟨N, rt⟩ (.slice aoR R.length capR) R (Od.sd f_li8.out.1) (by omega) (by show rt.size ≤ _; omega) (by
                rw [← HLI.out]
                unfold list17
                rw [HM17.out]
                intro x hx
                obtain ⟨t, ht, rfl⟩ := List.mem_map.1 hx
                have h1 := HMz.out t ht
                have h2 := pname_size t
                unfold need1
                omega)
              obtain ⟨K, hK⟩ : ∃ K, lock ⟨N, rt⟩ R = K := ⟨_, rfl⟩
              rw [hK] at q5
              have HK : Hid (lock (head17 s) (list17 s) = K) := by show _ = _; rw [HHD.out, HLI.out]; exact hK
              clear hK
              go_wp2_with (refine wpList_load_row rfl 25 _ rfl (W5.heap.size) rfl 25 (hc ⟨N, rt⟩) (0, 0) _ r_h8.out Tryz.underlying25 rfl (sizeH _) ?_)
              go_wp2_with fail
              refine (q5).mono ?_
              rintro e W9 ⟨rfl, b9⟩
              have z9 := b9.size
              have B9 := Ke.b B8 b9
              have r_res9 := Ke.r r_res8 b9
              have r_h9 := Ke.r r_h8 b9
              have c_res9 := Ke.c r_res9
              have c_h9 := Ke.c r_h9
              clear r_res8 c_res8 r_h8 c_h8
              have f_L9 : Hid (Lns W9 g1 L) := Lns.later f_L8.out b9
              have f_no9 : Hid (Odp W9 W1.heap.size W2.heap.size (.slice (some ⟨w.heap.size + 1, 0, none⟩) 0 0) []) := Odp.later f_no8.out b9
              have f_li9 : Hid (Odp W9 W6.heap.size W8.heap.size (.slice aoR R.length capR) R) := Odp.later f_li8.out b9
              clear f_L8 f_no8 f_li8
              clear q5
              obtain ⟨E2, hE2⟩ : ∃ E, (K.toList == s.toList) = E := ⟨_, rfl⟩
              cases E2
              · have HN : Hid (parse s = none17) := parse_other (by rw [HK.out]; intro h9; rw [h9, beq_self_eq_true] at hE2; cases hE2)
                go_wp2_with (refine wpList_store_row rfl 25 _ _ rfl (w.heap.size) (hc hd0) rfl rfl 25 _ r_res9.out (sizeH _) rfl (oneH _) ?_)
                refine bodyPost_ret (res_h3 rfl _ _ (w.heap.size) 25 (hc hd0) (0, 0) _ rfl (setRow_heap _ _ _ _ _ (0, 0) r_res9.out) Tryz.underlying25 rfl (sizeH _)) rfl ⟨.slice (some ⟨w.heap.size + 1, 0, none⟩) 0 0, by rw [HN.out]; rfl, ?_, below_setRow B9.out (by omega) _⟩
                rw [HN.out]
                have hb := B9.out.size
                exact On.mono (On.keep f_no9.out.1 fun j h1 h2 => setRow_other _ _ _ _ (by omega)) (by omega) (by rw [size_setRow]; exact f_no9.out.2)
              · have HN : Hid (parse s = (⟨N, rt⟩, R, true)) := by show _ = _; rw [parse_yes HF.out HGD.out (by rw [HK.out]; exact (eqT_iff _ _).1 hE2), HHD.out, HLI.out]
                go_wp2_with (first | (refine wpList_load_row rfl 25 _ rfl (W5.heap.size) rfl 25 (hc ⟨N, rt⟩) (0, 0) _ r_h9.out Tryz.underlying25 rfl (sizeH _) ?_) | (refine wpList_store_row rfl 25 _ _ rfl (w.heap.size) (hc ⟨N, rt⟩) rfl rfl 25 _ r_res9.out (sizeH _) rfl (oneH _) ?_))
                refine bodyPost_ret (res_h3 rfl _ _ (w.heap.size) 25 (hc ⟨N, rt⟩) (0, 0) _ rfl (setRow_heap _ _ _ _ _ (0, 0) r_res9.out) Tryz.underlying25 rfl (sizeH _)) rfl ⟨.slice aoR R.length capR, by rw [HN.out]; rfl, ?_, below_setRow B9.out (by omega) _⟩
                rw [HN.out]
                have hb := K_B.out.size
                have hb2 := r_res9.out
                exact On.mono (On.keep f_li9.out.1 fun j h1 h2 => setRow_other _ _ _ _ (by omega)) (by omega) (by rw [size_setRow]; exact f_li9.out.2)
    · have HN : Hid (parse s = none17) := form_2 (by rw [HW17.out]; exact HW0.out) (word0_ne hE0)
      go_wp2_with (refine wpList_store_row rfl 25 _ _ rfl (w.heap.size) (hc hd0) rfl rfl 25 _ r_res4.out (sizeH _) rfl (oneH _) ?_)
      refine bodyPost_ret (res_h3 rfl _ _ (w.heap.size) 25 (hc hd0) (0, 0) _ rfl (setRow_heap _ _ _ _ _ (0, 0) r_res4.out) Tryz.underlying25 rfl (sizeH _)) rfl ⟨.slice (some ⟨w.heap.size + 1, 0, none⟩) 0 0, by rw [HN.out]; rfl, ?_, below_setRow B4.out (by omega) _⟩
      rw [HN.out]
      have hb := B4.out.size
      exact On.mono (On.keep f_no4.out.1 fun j h1 h2 => setRow_other _ _ _ _ (by omega)) (by omega) (by rw [size_setRow]; exact f_no4.out.2)
  · have d3 : ((D.length : Int) != 3) = true := by simp; omega
    have HN : Hid (parse s = none17) := form_1 (by rw [HW17.out]; exact h3)
    go_wp2_with (refine wpList_store_row rfl 25 _ _ rfl (w.heap.size) (hc hd0) rfl rfl 25 _ r_res4.out (sizeH _) rfl (oneH _) ?_)
    refine bodyPost_ret (res_h3 rfl _ _ (w.heap.size) 25 (hc hd0) (0, 0) _ rfl (setRow_heap _ _ _ _ _ (0, 0) r_res4.out) Tryz.underlying25 rfl (sizeH _)) rfl ⟨.slice (some ⟨w.heap.size + 1, 0, none⟩) 0 0, by rw [HN.out]; rfl, ?_, below_setRow B4.out (by omega) _⟩
    rw [HN.out]
    have hb := B4.out.size
    exact On.mono (On.keep f_no4.out.1 fun j h1 h2 => setRow_other _ _ _ _ (by omega)) (by omega) (by rw [size_setRow]; exact f_no4.out.2)

end Go.Proofs.YtbopliahafkecaaGreatDoor.Lk

/- Chapter 5, the laws' helpers: marks laid into a list of needs, and found there. -/
namespace Go.Proofs.YtbopliahafkecaaGreatDoor.Ent
open Go.RowKit Go.Proofs.YtbopliahafkecaaGreatDoor.Mem Go.Proofs.YtbopliahafkecaaGreatDoor.Laws Go.Proofs.YtbopliahafkecaaGreatDoor.Bytes Go.Proofs.YtbopliahafkecaaGreatDoor.Sha Go.Proofs.YtbopliahafkecaaGreatDoor.Ver Go.Proofs.YtbopliahafkecaaGreatDoor.Mod Go.Proofs.YtbopliahafkecaaGreatDoor.Strs
set_option linter.unusedVariables false
set_option linter.unusedSimpArgs false

/-- marks from k on, as needs -/
def md (k : Nat) : Nd := ⟨mt k, ((k + 1 : Nat) : Int), ((k + 2 : Nat) : Int), ((k + 3 : Nat) : Int), mt (k + 4)⟩
def mds (k n : Nat) : List Nd := (List.range n).map fun i => md (k + 5 * i)
theorem mds_len (k n : Nat) : (mds k n).length = n := by simp [mds]
theorem mds_get (k n j : Nat) (h : j < n) : (mds k n)[j]? = some (md (k + 5 * j)) := by simp [mds, h]
theorem own_keep5 {n m cap lo g : Nat} {e : TypeId} {w w' : World} {cs : List Value} (h : w.ownsRow lo e n (.slice (some ⟨g, 0, none⟩) m cap) m cs) (hk : w'.heap[g]? = w.heap[g]?) : w'.ownsRow lo e n (.slice (some ⟨g, 0, none⟩) m cap) m cs := by
  refine ⟨h.1, ?_⟩
  rcases h.2 with ⟨h', _⟩ | ⟨g', cap', cur, h', hq, hh, r⟩
  · simp at h'
  · simp only [Value.slice.injEq, Option.some.injEq, Addr.mk.injEq, and_true, true_and] at h'
    obtain ⟨rfl, rfl⟩ := h'
    exact .inr ⟨g, cap, cur, rfl, hq, by rw [hk]; exact hh, r⟩

set_option maxRecDepth 1000000 in
set_option maxHeartbeats 4000000 in
theorem mark_needs (w : World) (v : Value) (lo hi : Nat) (l : List Nd) (k0 : Nat) (h : Od w lo hi v l) (hhi : hi ≤ w.heap.size) (hx : l.length ≤ 1000000000) (hk1 : 1 ≤ k0) (hk0 : k0 ≤ 1000000000) :
    Calls Tryz.prog 15 #[v, .int .i64 (k0 : Int)] w fun e w' => e = .returned (.int .i64 ((k0 + 5 * l.length : Nat) : Int)) ∧ Od w' lo hi v (mds k0 l.length) ∧ Apart lo hi w w' := by
  rcases h.1.2 with ⟨rfl, h0⟩ | ⟨g, cap, cur, rfl, hbg, hg, hnc, hcm, hcs, ht⟩
  · have hcs : l = [] := List.eq_nil_of_length_eq_zero h0
    subst hcs
    go_enter Tryz.func15, Tryz.ntmps15
    go_wp2
    refine wp_loop_rounds 1 ?_; rw [rounds_succ]
    go_wp2
    go_ret
    exact ⟨rfl, h, Apart.refl _ _ _⟩
  · have hgh : g < hi := h.2 g rfl
    have hown1 := h.1
    obtain ⟨n, hn⟩ : ∃ n, n = l.length := ⟨_, rfl⟩
    have hown0 : w.ownsRow lo 47 5 (.slice (some ⟨g, 0, none⟩) n cap) n (nds l) := by rw [hn]; exact hown1
    rw [← hn] at hnc hx ⊢
    clear hg hcs ht h hcm cur hown1
    go_enter Tryz.func15, Tryz.ntmps15
    go_wp2
    go_loopw [1, 5] (fun kk i wr => ∃ (k : Nat) (L : List Value), k ≤ n ∧ i = .int .i64 k ∧ kk = .int .i64 ((k0 + 5 * k : Nat) : Int) ∧ L.take (k * 5) = (nds (mds k0 n)).take (k * 5) ∧ wr.ownsRow lo 47 5 (.slice (some ⟨g, 0, none⟩) n cap) n L ∧ Apart lo hi w wr) (fun _ i _ => n - (intOf i).toNat)
    case atStart => exact ⟨0, nds l, Nat.zero_le _, rfl, rfl, by simp, hown0, Apart.refl _ _ _⟩
    case round =>
      obtain ⟨k, L, hk, rfl, rfl, hE0, hownr, hap⟩ := hrel
      have HE : Hid (L.take (k * 5) = (nds (mds k0 n)).take (k * 5)) := hE0
      have HL : Hid (L.length = n * 5) := hownr.1
      clear hE0 hown0 hn
      by_cases hlt : k < n
      · have hglt : g < wr.heap.size := (hownr.lt g rfl).2
        obtain ⟨K, hK⟩ : ∃ K : Nat, K = k0 + 5 * k := ⟨_, rfl⟩
        have HK : Hid (K = k0 + 5 * k) := hK
        have hKb : K ≤ 10000000000 := by omega
        have hK1 : 1 ≤ K := by omega
        rw [← hK]
        clear hK
        have hmt := mark_text wr K (by omega) (by omega)
        have hm4 : ∀ W, _ := fun W => mark_text W (K + 4) (by omega) (by omega)
        go_wp2_with fail
        refine hmt.mono ?_
        rintro e w1 ⟨rfl, hb1⟩
        have hown1 : w1.ownsRow lo 47 5 (.slice (some ⟨g, 0, none⟩) n cap) n L := own_keep5 hownr (hb1.block g hglt)
        have hap1 := hap.grow hb1
        have hc : ∀ j, j < 5 → ∃ u, w1.cell? ⟨g, k * 5 + j, none⟩ = some u := fun j hj => ⟨L[k * 5 + j]'(by have := HL.out; omega), by rw [hown1.cellAt (k * 5 + j) (by omega)]; simp⟩
        obtain ⟨u0, hu0⟩ := hc 0 (by omega)
        obtain ⟨u1, hu1⟩ := hc 1 (by omega)
        obtain ⟨u2, hu2⟩ := hc 2 (by omega)
        obtain ⟨u3, hu3⟩ := hc 3 (by omega)
        obtain ⟨u4, hu4⟩ := hc 4 (by omega)
        rw [Nat.add_zero] at hu0
        have hf0 := hown1.frozenAt (k * 5)
        have hf1 := hown1.frozenAt (k * 5 + 1)
        have hf2 := hown1.frozenAt (k * 5 + 2)
        have hf3 := hown1.frozenAt (k * 5 + 3)
        have hf4 := hown1.frozenAt (k * 5 + 4)
        clear hmt hownr hap hb1 hc
        go_wp2_with fail
        have e4 : (K : Int) + 1 + 1 + 1 + 1 = ((K + 4 : Nat) : Int) := by omega
        have e3 : (K : Int) + 1 + 1 + 1 = ((K + 3 : Nat) : Int) := by omega
        have e2 : (K : Int) + 1 + 1 = ((K + 2 : Nat) : Int) := by omega
        have e1 : (K : Int) + 1 = ((K + 1 : Nat) : Int) := by omega
        rw [e4]
        obtain ⟨W4, hW4⟩ : ∃ W4, W4 = ((((w1.setCell ⟨g, k * 5, none⟩ (.string (mt K))).setCell ⟨g, k * 5 + 1, none⟩ (.int .i64 ((K : Int) + 1))).setCell ⟨g, k * 5 + 1 + 1, none⟩ (.int .i64 ((K : Int) + 1 + 1))).setCell ⟨g, k * 5 + 1 + 2, none⟩ (.int .i64 ((K : Int) + 1 + 1 + 1))) := ⟨_, rfl⟩
        have hown4 : W4.ownsRow lo 47 5 (.slice (some ⟨g, 0, none⟩) n cap) n ((((L.set (k * 5) (.string (mt K))).set (k * 5 + 1) (.int .i64 ((K : Int) + 1))).set (k * 5 + 1 + 1) (.int .i64 ((K : Int) + 1 + 1))).set (k * 5 + 1 + 2) (.int .i64 ((K : Int) + 1 + 1 + 1))) := by
          rw [hW4]
          exact ((((hown1.stored _ _).1.stored _ _).1.stored _ _).1.stored _ _).1
        have hap4 : Apart lo hi w W4 := by
          rw [hW4]
          exact (((hap1.setCell (p := ⟨g, k * 5, none⟩) hbg hgh _).setCell (p := ⟨g, k * 5 + 1, none⟩) hbg hgh _).setCell (p := ⟨g, k * 5 + 1 + 1, none⟩) hbg hgh _).setCell (p := ⟨g, k * 5 + 1 + 2, none⟩) hbg hgh _
        have q4 := hm4 W4
        rw [hW4] at q4
        refine q4.mono ?_
        rw [← hW4]
        rintro e w5 ⟨rfl, hb5⟩
        have hg4 : g < W4.heap.size := (hown4.lt g rfl).2
        have hown5 := own_keep5 hown4 (hb5.block g hg4)
        have hap5 := hap4.grow hb5
        obtain ⟨L5, hL5⟩ : ∃ L5, L5 = ((((L.set (k * 5) (.string (mt K))).set (k * 5 + 1) (.int .i64 ((K : Int) + 1))).set (k * 5 + 1 + 1) (.int .i64 ((K : Int) + 1 + 1))).set (k * 5 + 1 + 2) (.int .i64 ((K : Int) + 1 + 1 + 1))) := ⟨_, rfl⟩
        rw [← hL5] at hown5
        have HL5 : Hid (L5.length = n * 5) := hown5.1
        obtain ⟨u5, hu5⟩ : ∃ u, w5.cell? ⟨g, k * 5 + 1 + 3, none⟩ = some u := ⟨L5[k * 5 + 1 + 3]'(by have := HL5.out; omega), by rw [hown5.cellAt (k * 5 + 1 + 3) (by omega)]; simp⟩
        have hf5 := hown5.frozenAt (k * 5 + 1 + 3)
        have HS : Hid ((w5.setCell ⟨g, k * 5 + 1 + 3, none⟩ (.string (mt (K + 4)))).ownsRow lo 47 5 (.slice (some ⟨g, 0, none⟩) n cap) n (putL L (k * 5) (md K).cs)) := by
          have h := (hown5.stored (k * 5 + 1 + 3) (.string (mt (K + 4)))).1
          rw [hL5, e3, e2, e1] at h
          exact h
        have HA : Hid (Apart lo hi w (w5.setCell ⟨g, k * 5 + 1 + 3, none⟩ (.string (mt (K + 4))))) := hap5.setCell (p := ⟨g, k * 5 + 1 + 3, none⟩) hbg hgh _
        clear q4 hm4 hown1 hown4 hown5 hap1 hap4 hap5 hu0 hu1 hu2 hu3 hu4 hf0 hf1 hf2 hf3 hf4 hb5 hW4 hL5 HL5 e1 e2 e3 e4
        go_wp2
        go_roundw
        case rel =>
          refine ⟨k + 1, putL L (k * 5) (md K).cs, by omega, by go_num, ?_, ?_, HS.out, HA.out⟩
          · have := HK.out
            go_num
          · refine putL_take (by rw [HL.out, nds_len, mds_len]) (by rw [nds_len, mds_len]; omega) HE.out rfl (fun j hj => ?_)
            have hq := mds_get k0 n k hlt
            rw [← HK.out] at hq
            obtain ⟨c0, c1, c2, c3, c4⟩ := nds_get (mds k0 n) k (md K) hq
            match j, hj with
            | 0, _ => exact c0
            | 1, _ => exact c1
            | 2, _ => exact c2
            | 3, _ => exact c3
            | 4, _ => exact c4
        case measure => simp [intOf]; omega
      · go_wp2
        go_ret
        have h1 := HE.out
        have h2 := HL.out
        have hkn : k = n := by omega
        subst hkn
        rw [List.take_of_length_le (by omega), List.take_of_length_le (by rw [nds_len, mds_len]; omega)] at h1
        subst h1
        refine ⟨rfl, ⟨?_, fun g' hg' => by simp [Value.ownBlock] at hg'; omega⟩, hap⟩
        have := hownr
        rw [mds_len]
        exact this

end Go.Proofs.YtbopliahafkecaaGreatDoor.Ent

/- Chapter 5, the laws' helpers: marks found in a list of needs; an entry's marks. -/
namespace Go.Proofs.YtbopliahafkecaaGreatDoor.Ent
open Go.RowKit Go.Proofs.YtbopliahafkecaaGreatDoor.Mem Go.Proofs.YtbopliahafkecaaGreatDoor.Laws Go.Proofs.YtbopliahafkecaaGreatDoor.Bytes Go.Proofs.YtbopliahafkecaaGreatDoor.Sha Go.Proofs.YtbopliahafkecaaGreatDoor.Ver Go.Proofs.YtbopliahafkecaaGreatDoor.Mod Go.Proofs.YtbopliahafkecaaGreatDoor.Strs
set_option linter.unusedVariables false
set_option linter.unusedSimpArgs false

set_option maxRecDepth 1000000 in
set_option maxHeartbeats 4000000 in
theorem held_needs (w : World) (v : Value) (n k0 : Nat) (h : Sd w v (mds k0 n)) (hx : n ≤ 1000000000) (hk1 : 1 ≤ k0) (hk0 : k0 ≤ 1000000000) :
    Calls Tryz.prog 16 #[v, .int .i64 (k0 : Int)] w fun e w' => e = .returned (.int .i64 ((k0 + 5 * n : Nat) : Int)) ∧ Below w.heap.size w w' := by
  have HS : Hid (Sd w v (mds k0 n)) := h
  obtain ⟨_, ao, cap, rfl, hcap, _, _⟩ := h
  have hml := mds_len k0 n
  rw [hml] at HS hcap ⊢
  go_enter Tryz.func16, Tryz.ntmps16
  go_wp2
  go_loopw [1, 5] (fun kk i wr => ∃ k : Nat, k ≤ n ∧ i = .int .i64 (k : Int) ∧ kk = .int .i64 ((k0 + 5 * k : Nat) : Int) ∧ Below w.heap.size w wr) (fun _ i _ => n - (intOf i).toNat)
  case atStart => exact ⟨0, Nat.zero_le _, rfl, rfl, Below.refl _ _⟩
  case round =>
    obtain ⟨k, hk, rfl, rfl, hB⟩ := hrel
    by_cases hlt : k < n
    · obtain ⟨b, off, cap', he, _, c0, c1, c2, c3, c4⟩ := Sd.at (HS.out.later hB) (mds_get k0 n k hlt)
      simp only [Value.slice.injEq] at he
      obtain ⟨rfl, hxx, rfl⟩ := he
      clear hxx
      obtain ⟨K, hK⟩ : ∃ K : Nat, K = k0 + 5 * k := ⟨_, rfl⟩
      have HK : Hid (K = k0 + 5 * k) := hK
      have hKb : K ≤ 10000000000 := by omega
      have hK1 : 1 ≤ K := by omega
      rw [← hK] at c0 c1 c2 c3 c4 ⊢
      unfold md at c0 c1 c2 c3 c4
      simp only at c0 c1 c2 c3 c4
      have e4 : ((K + 4 : Nat) : Int) = (K : Int) + 1 + 1 + 1 + 1 := by omega
      have e3 : ((K + 3 : Nat) : Int) = (K : Int) + 1 + 1 + 1 := by omega
      have e2 : ((K + 2 : Nat) : Int) = (K : Int) + 1 + 1 := by omega
      have e1 : ((K + 1 : Nat) : Int) = (K : Int) + 1 := by omega
      rw [e1] at c1
      rw [e2] at c2
      rw [e3] at c3
      have hm0 : ∀ W, _ := fun W => mark_text W K (by omega) (by omega)
      have hm4 : ∀ W, _ := fun W => mark_text W (K + 4) (by omega) (by omega)
      rw [e4] at hm4
      have n0 : ((mt K).toList != (mt K).toList) = false := by simp
      have n4 : ((mt (K + 4)).toList != (mt (K + 4)).toList) = false := by simp
      have n1 : ((K : Int) + 1 != (K : Int) + 1) = false := by simp
      have n2 : ((K : Int) + 1 + 1 != (K : Int) + 1 + 1) = false := by simp
      have n3 : ((K : Int) + 1 + 1 + 1 != (K : Int) + 1 + 1 + 1) = false := by simp
      clear hK hml e1 e2 e3 e4
      go_wp2_with fail
      refine wp_region_held_drew (S := fun w' => Below w.heap.size w w' ∧ w'.cell? ⟨b, off + k * 5, none⟩ = some (.string (mt K)) ∧ w'.cell? ⟨b, off + k * 5 + 1, none⟩ = some (.int .i64 ((K : Int) + 1)) ∧ w'.cell? ⟨b, off + k * 5 + 1 + 1, none⟩ = some (.int .i64 ((K : Int) + 1 + 1)) ∧ w'.cell? ⟨b, off + k * 5 + 1 + 2, none⟩ = some (.int .i64 ((K : Int) + 1 + 1 + 1)) ∧ w'.cell? ⟨b, off + k * 5 + 1 + 3, none⟩ = some (.string (mt (K + 4)))) (by kernel_rfl) ⟨Below.drew hB, c0, c1, c2, c3, c4⟩ (fun hHeld => ?_)
      (refine wpAnyH_take (i := 0) (v := ?v0x1) rfl (by kernel_rfl) (by kernel_rfl) (by kernel_rfl) (fun _ _ _ h => h) (Or.inl ⟨by rfl, ?hy0x1⟩) (by assumption) ?rest0x1; case hy0x1 => (intro w hSw; (try dsimp only at hSw); go_split_ands; go_simp; (try with_reducible rfl)))
      try simp only [Act.put, List.setIfInBounds_toArray, List.set_cons_zero, List.set_cons_succ, List.getElem_toArray, List.getElem_cons_zero, List.getElem_cons_succ]
      (refine wpAnyH_take (i := 1) (v := ?v1x2) rfl (by kernel_rfl) (by kernel_rfl) (by kernel_rfl) (fun _ _ _ h => h) (Or.inl ⟨by rfl, ?hy1x2⟩) (by assumption) ?rest1x2; case hy1x2 => (intro w hSw; (try dsimp only at hSw); go_split_ands; go_simp; (try with_reducible rfl)))
      try simp only [Act.put, List.setIfInBounds_toArray, List.set_cons_zero, List.set_cons_succ, List.getElem_toArray, List.getElem_cons_zero, List.getElem_cons_succ]
      (refine wpAnyH_take (i := 2) (v := ?v2x3) rfl (by kernel_rfl) (by kernel_rfl) (by kernel_rfl) (fun _ _ _ h => h) (Or.inl ⟨by rfl, ?hy2x3⟩) (by assumption) ?rest2x3; case hy2x3 => (intro w hSw; (try dsimp only at hSw); go_split_ands; go_simp; (try with_reducible rfl)))
      try simp only [Act.put, List.setIfInBounds_toArray, List.set_cons_zero, List.set_cons_succ, List.getElem_toArray, List.getElem_cons_zero, List.getElem_cons_succ]
      (refine wpAnyH_take (i := 3) (v := ?v3x4) rfl (by kernel_rfl) (by kernel_rfl) (by kernel_rfl) (fun _ _ _ h => h) (Or.inl ⟨by rfl, ?hy3x4⟩) (by assumption) ?rest3x4; case hy3x4 => (intro w hSw; (try dsimp only at hSw); go_split_ands; go_simp; (try with_reducible rfl)))
      try simp only [Act.put, List.setIfInBounds_toArray, List.set_cons_zero, List.set_cons_succ, List.getElem_toArray, List.getElem_cons_zero, List.getElem_cons_succ]
      (refine wpAnyH_take (i := 4) (v := ?v4x5) rfl (by kernel_rfl) (by kernel_rfl) (by kernel_rfl) (fun _ _ _ h => h) (Or.inl ⟨by rfl, ?hy4x5⟩) (by assumption) ?rest4x5; case hy4x5 => (intro w hSw; (try dsimp only at hSw); go_split_ands; go_simp; (try with_reducible rfl)))
      try simp only [Act.put, List.setIfInBounds_toArray, List.set_cons_zero, List.set_cons_succ, List.getElem_toArray, List.getElem_cons_zero, List.getElem_cons_succ]
      (refine wpAnyH_take (i := 5) (v := ?v5x6) rfl (by kernel_rfl) (by kernel_rfl) (by kernel_rfl) (fun _ _ _ h => h) (Or.inl ⟨by rfl, ?hy5x6⟩) (by assumption) ?rest5x6; case hy5x6 => (intro w hSw; (try dsimp only at hSw); go_split_ands; go_simp; (try with_reducible rfl)))
      try simp only [Act.put, List.setIfInBounds_toArray, List.set_cons_zero, List.set_cons_succ, List.getElem_toArray, List.getElem_cons_zero, List.getElem_cons_succ]
      refine wpAnyH_ready (rs := [6]) (by kernel_rfl) (by simp) ?_
      refine AllReadyH.cons rfl (fun K hK => ?_) AllReadyH.nil
      go_simp
      refine (hm0 _).mono ?_
      rintro e wa4 ⟨rfl, ba4⟩
      refine hK.out _ _ ?_ (fun hHeld => ?_)
      · obtain ⟨s, s0, s1, s2, s3, s4⟩ := hHeld; exact ⟨s.trans (ba4.mono s.size), Ver.keepCell s0 ba4, Ver.keepCell s1 ba4, Ver.keepCell s2 ba4, Ver.keepCell s3 ba4, Ver.keepCell s4 ba4⟩
      clear hK K
      try simp only [Act.put, List.setIfInBounds_toArray, List.set_cons_zero, List.set_cons_succ, List.getElem_toArray, List.getElem_cons_zero, List.getElem_cons_succ]
      (refine wpAnyH_take (i := 7) (v := ?v7x7) rfl (by kernel_rfl) (by kernel_rfl) (by kernel_rfl) (fun _ _ _ h => h) (Or.inl ⟨by rfl, ?hy7x7⟩) (by assumption) ?rest7x7; case hy7x7 => (intro w hSw; (try dsimp only at hSw); go_split_ands; go_simp; (try with_reducible rfl)))
      try simp only [Act.put, List.setIfInBounds_toArray, List.set_cons_zero, List.set_cons_succ, List.getElem_toArray, List.getElem_cons_zero, List.getElem_cons_succ]
      refine wpAnyH_done (by kernel_rfl) ?_ _
      replace hB : Below w.heap.size w wa4 := hHeld.1
      replace c0 := hHeld.2.1
      replace c1 := hHeld.2.2.1
      replace c2 := hHeld.2.2.2.1
      replace c3 := hHeld.2.2.2.2.1
      replace c4 := hHeld.2.2.2.2.2
      clear hHeld hm0 ba4
      go_wp2_with fail
      refine wp_region_held_drew (S := fun w' => Below w.heap.size w w' ∧ w'.cell? ⟨b, off + k * 5, none⟩ = some (.string (mt K)) ∧ w'.cell? ⟨b, off + k * 5 + 1, none⟩ = some (.int .i64 ((K : Int) + 1)) ∧ w'.cell? ⟨b, off + k * 5 + 1 + 1, none⟩ = some (.int .i64 ((K : Int) + 1 + 1)) ∧ w'.cell? ⟨b, off + k * 5 + 1 + 2, none⟩ = some (.int .i64 ((K : Int) + 1 + 1 + 1)) ∧ w'.cell? ⟨b, off + k * 5 + 1 + 3, none⟩ = some (.string (mt (K + 4)))) (by kernel_rfl) ⟨Below.drew hB, c0, c1, c2, c3, c4⟩ (fun hHeld => ?_)
      (refine wpAnyH_take (i := 0) (v := ?v0x8) rfl (by kernel_rfl) (by kernel_rfl) (by kernel_rfl) (fun _ _ _ h => h) (Or.inl ⟨by rfl, ?hy0x8⟩) (by assumption) ?rest0x8; case hy0x8 => (intro w hSw; (try dsimp only at hSw); go_split_ands; go_simp; (try with_reducible rfl)))
      try simp only [Act.put, List.setIfInBounds_toArray, List.set_cons_zero, List.set_cons_succ, List.getElem_toArray, List.getElem_cons_zero, List.getElem_cons_succ]
      (refine wpAnyH_take (i := 1) (v := ?v1x9) rfl (by kernel_rfl) (by kernel_rfl) (by kernel_rfl) (fun _ _ _ h => h) (Or.inl ⟨by rfl, ?hy1x9⟩) (by assumption) ?rest1x9; case hy1x9 => (intro w hSw; (try dsimp only at hSw); go_split_ands; go_simp; (try with_reducible rfl)))
      try simp only [Act.put, List.setIfInBounds_toArray, List.set_cons_zero, List.set_cons_succ, List.getElem_toArray, List.getElem_cons_zero, List.getElem_cons_succ]
      (refine wpAnyH_take (i := 2) (v := ?v2x10) rfl (by kernel_rfl) (by kernel_rfl) (by kernel_rfl) (fun _ _ _ h => h) (Or.inl ⟨by rfl, ?hy2x10⟩) (by assumption) ?rest2x10; case hy2x10 => (intro w hSw; (try dsimp only at hSw); go_split_ands; go_simp; (try with_reducible rfl)))
      try simp only [Act.put, List.setIfInBounds_toArray, List.set_cons_zero, List.set_cons_succ, List.getElem_toArray, List.getElem_cons_zero, List.getElem_cons_succ]
      (refine wpAnyH_take (i := 3) (v := ?v3x11) rfl (by kernel_rfl) (by kernel_rfl) (by kernel_rfl) (fun _ _ _ h => h) (Or.inl ⟨by rfl, ?hy3x11⟩) (by assumption) ?rest3x11; case hy3x11 => (intro w hSw; (try dsimp only at hSw); go_split_ands; go_simp; (try with_reducible rfl)))
      try simp only [Act.put, List.setIfInBounds_toArray, List.set_cons_zero, List.set_cons_succ, List.getElem_toArray, List.getElem_cons_zero, List.getElem_cons_succ]
      (refine wpAnyH_take (i := 4) (v := ?v4x12) rfl (by kernel_rfl) (by kernel_rfl) (by kernel_rfl) (fun _ _ _ h => h) (Or.inl ⟨by rfl, ?hy4x12⟩) (by assumption) ?rest4x12; case hy4x12 => (intro w hSw; (try dsimp only at hSw); go_split_ands; go_simp; (try with_reducible rfl)))
      try simp only [Act.put, List.setIfInBounds_toArray, List.set_cons_zero, List.set_cons_succ, List.getElem_toArray, List.getElem_cons_zero, List.getElem_cons_succ]
      (refine wpAnyH_take (i := 5) (v := ?v5x13) rfl (by kernel_rfl) (by kernel_rfl) (by kernel_rfl) (fun _ _ _ h => h) (Or.inl ⟨by rfl, ?hy5x13⟩) (by assumption) ?rest5x13; case hy5x13 => (intro w hSw; (try dsimp only at hSw); go_split_ands; go_simp; (try with_reducible rfl)))
      try simp only [Act.put, List.setIfInBounds_toArray, List.set_cons_zero, List.set_cons_succ, List.getElem_toArray, List.getElem_cons_zero, List.getElem_cons_succ]
      (refine wpAnyH_take (i := 6) (v := ?v6x14) rfl (by kernel_rfl) (by kernel_rfl) (by kernel_rfl) (fun _ _ _ h => h) (Or.inl ⟨by rfl, ?hy6x14⟩) (by assumption) ?rest6x14; case hy6x14 => (intro w hSw; (try dsimp only at hSw); go_split_ands; go_simp; (try with_reducible rfl)))
      try simp only [Act.put, List.setIfInBounds_toArray, List.set_cons_zero, List.set_cons_succ, List.getElem_toArray, List.getElem_cons_zero, List.getElem_cons_succ]
      refine wpAnyH_ready (rs := [7]) (by kernel_rfl) (by simp) ?_
      refine AllReadyH.cons rfl (fun K hK => ?_) AllReadyH.nil
      go_simp
      refine (hm4 _).mono ?_
      rintro e wa16 ⟨rfl, ba16⟩
      refine hK.out _ _ ?_ (fun hHeld => ?_)
      · obtain ⟨s, s0, s1, s2, s3, s4⟩ := hHeld; exact ⟨s.trans (ba16.mono s.size), Ver.keepCell s0 ba16, Ver.keepCell s1 ba16, Ver.keepCell s2 ba16, Ver.keepCell s3 ba16, Ver.keepCell s4 ba16⟩
      clear hK K
      try simp only [Act.put, List.setIfInBounds_toArray, List.set_cons_zero, List.set_cons_succ, List.getElem_toArray, List.getElem_cons_zero, List.getElem_cons_succ]
      (refine wpAnyH_take (i := 8) (v := ?v8x15) rfl (by kernel_rfl) (by kernel_rfl) (by kernel_rfl) (fun _ _ _ h => h) (Or.inl ⟨by rfl, ?hy8x15⟩) (by assumption) ?rest8x15; case hy8x15 => (intro w hSw; (try dsimp only at hSw); go_split_ands; go_simp; (try with_reducible rfl)))
      try simp only [Act.put, List.setIfInBounds_toArray, List.set_cons_zero, List.set_cons_succ, List.getElem_toArray, List.getElem_cons_zero, List.getElem_cons_succ]
      refine wpAnyH_done (by kernel_rfl) ?_ _
      have hB9 : Below w.heap.size w wa16 := hHeld.1
      clear hHeld hm4 ba16 c0 c1 c2 c3 c4 hB
      go_wp2
      go_roundw
      case rel =>
        refine ⟨k + 1, by omega, by go_num, ?_, hB9⟩
        have := HK.out
        go_num
      case measure => simp [intOf]; omega
    · go_wp2
      go_ret
      have hkn : k = n := by omega
      subst hkn
      exact ⟨rfl, hB⟩

end Go.Proofs.YtbopliahafkecaaGreatDoor.Ent
