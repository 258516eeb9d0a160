/- Texts in one: OrdE, Fe1, Fe2, Fe3, Fe4, Fe5, Fg1. -/
import Derived.Test.YtlhmemnaiobgkaaGreatDoorPq6
import Derived.Test.YtlhmemnaiobgkaaGreatDoorPq7
import Derived.Test.YtlhmemnaiobgkaaGreatDoorPq11
import Derived.Test.YtlhmemnaiobgkaaGreatDoorPq8
import Derived.Laws.StructEq
/- Two versions held against each other, as the language does it. -/
namespace Go.Proofs.YtlhmemnaiobgkaaGreatDoor.Ver
open Go.RowKit Go.Proofs.YtlhmemnaiobgkaaGreatDoor.Mem Go.Proofs.YtlhmemnaiobgkaaGreatDoor.Laws Go.Proofs.YtlhmemnaiobgkaaGreatDoor.Bytes Go.Proofs.YtlhmemnaiobgkaaGreatDoor.Sha
set_option linter.unusedVariables false
set_option linter.unusedSimpArgs false

theorem fieldsV : Tryz.prog.underlying 32 = some (.struct (Tryz.prog.fieldsOf 32)) := by kernel_rfl
theorem heldV : Tryz.prog.stoodInHeld 32 = false := by kernel_rfl
theorem guardV : Tryz.prog.eqGuardType Tryz.prog.depth 32 = false := by kernel_rfl
theorem fieldsL : (Tryz.prog.fieldsOf 32).toList.map (fun f => (f.type, f.offset)) = [(3, 0), (3, 1), (3, 2), (9, 3)] := by kernel_rfl
/-- the same version -/
def sameV (a1 b1 c1 : Int) (p1 : ByteArray) (a2 b2 c2 : Int) (p2 : ByteArray) : Bool := (a1 == a2) && (b1 == b2) && (c1 == c2) && (p1.toList == p2.toList)

theorem eqV (w : World) (a1 b1 c1 : Int) (p1 : ByteArray) (a2 b2 c2 : Int) (p2 : ByteArray) :
    (Op.equalIn 10000 32 (.agg #[.int .i64 a1, .int .i64 b1, .int .i64 c1, .string p1]) (.agg #[.int .i64 a2, .int .i64 b2, .int .i64 c2, .string p2])).run Tryz.prog w = .ok (sameV a1 b1 c1 p1 a2 b2 c2 p2) w := by
  rw [run_equalIn_struct w 9999 _ _ _ fieldsV heldV]
  simp [Program.fieldsOf, Tryz.underlying32, Op.eqFields, go_sem, run_underlying Tryz.underlying3, run_underlying Tryz.underlying9, Tryz.underlying3, Tryz.underlying9, part]
  unfold sameV
  repeat' split
  all_goals simp_all

theorem neqV (w : World) (a1 b1 c1 : Int) (p1 : ByteArray) (a2 b2 c2 : Int) (p2 : ByteArray) :
    (binOp .neq 32 (.agg #[.int .i64 a1, .int .i64 b1, .int .i64 c1, .string p1]) (.agg #[.int .i64 a2, .int .i64 b2, .int .i64 c2, .string p2])).run Tryz.prog w = .ok (.bool (!sameV a1 b1 c1 p1 a2 b2 c2 p2)) w := by
  rw [run_neq_struct, eqV]
  rfl
theorem eqlV (w : World) (a1 b1 c1 : Int) (p1 : ByteArray) (a2 b2 c2 : Int) (p2 : ByteArray) :
    (binOp .eql 32 (.agg #[.int .i64 a1, .int .i64 b1, .int .i64 c1, .string p1]) (.agg #[.int .i64 a2, .int .i64 b2, .int .i64 c2, .string p2])).run Tryz.prog w = .ok (.bool (sameV a1 b1 c1 p1 a2 b2 c2 p2)) w := by
  rw [run_eql_struct, eqV]
  rfl
theorem grdV (w : World) (op : BinOp) (x y : Operand) (xs ys : Array Value) : (eqGuard op 32 x y (.agg xs) (.agg ys)).run Tryz.prog w = .ok () w := run_eqGuard_agg w op 32 x y xs ys guardV
theorem sameV_iff (a1 b1 c1 : Int) (p1 : ByteArray) (a2 b2 c2 : Int) (p2 : ByteArray) : sameV a1 b1 c1 p1 a2 b2 c2 p2 = true ↔ a1 = a2 ∧ b1 = b2 ∧ c1 = c2 ∧ p1 = p2 := by
  unfold sameV
  simp only [Bool.and_eq_true, beq_iff_eq, ByteArray.toList_eq]
  constructor
  · rintro ⟨⟨⟨h1, h2⟩, h3⟩, h4⟩
    exact ⟨h1, h2, h3, by apply ByteArray.ext; apply Array.ext'; exact h4⟩
  · rintro ⟨h1, h2, h3, rfl⟩
    exact ⟨⟨⟨h1, h2⟩, h3⟩, rfl⟩

end Go.Proofs.YtlhmemnaiobgkaaGreatDoor.Ver

/- Chapter 15: entries in a slice: how they lie, and what is sought; plain facts. -/
namespace Go.Proofs.YtlhmemnaiobgkaaGreatDoor.Fe
open Go.RowKit Go.Proofs.YtlhmemnaiobgkaaGreatDoor.Mem Go.Proofs.YtlhmemnaiobgkaaGreatDoor.Laws Go.Proofs.YtlhmemnaiobgkaaGreatDoor.Ver Go.Proofs.YtlhmemnaiobgkaaGreatDoor.Ent
set_option linter.unusedVariables false
set_option linter.unusedSimpArgs false

/-- an entry in memory: its name's parts, the value of its needs, its needs -/
structure Ev where
  n : Nd
  u : Value
  l : List Nd
def ecs : List Ev → List Value
  | [] => []
  | x :: r => .string x.n.path :: .int .i64 x.n.a :: .int .i64 x.n.b :: .int .i64 x.n.c :: .string x.n.pre :: x.u :: ecs r
theorem ecs_len : ∀ l : List Ev, (ecs l).length = l.length * 6 := by
  intro l
  induction l with
  | nil => rfl
  | cons q r ih => simp [ecs, ih]; omega
theorem ecs_app (l m : List Ev) : ecs (l ++ m) = ecs l ++ ecs m := by
  induction l with
  | nil => rfl
  | cons q r ih => simp [ecs, ih]
theorem ecs_get : ∀ (l : List Ev) (k : Nat) (q : Ev), l[k]? = some q →
    (ecs l)[k * 6]? = some (.string q.n.path) ∧ (ecs l)[k * 6 + 1]? = some (.int .i64 q.n.a) ∧ (ecs l)[k * 6 + 2]? = some (.int .i64 q.n.b) ∧ (ecs l)[k * 6 + 3]? = some (.int .i64 q.n.c) ∧ (ecs l)[k * 6 + 4]? = some (.string q.n.pre) ∧ (ecs l)[k * 6 + 5]? = some q.u := by
  intro l
  induction l with
  | nil => intro k q h; simp at h
  | cons x r ih =>
    intro k q h
    cases k with
    | zero => simp at h; subst h; exact ⟨rfl, rfl, rfl, rfl, rfl, rfl⟩
    | succ k =>
      have := ih k q (by simpa using h)
      have e : (k + 1) * 6 = k * 6 + 6 := by omega
      rw [e]
      exact this
/-- v is a slice of these entries -/
def Se (w : World) (v : Value) (l : List Ev) : Prop := Sn 6 w v l.length (ecs l) ∧ ∀ x ∈ l, Sd w x.u x.l
theorem Se.later {w w' : World} {v : Value} {l : List Ev} (h : Se w v l) (b : Below w.heap.size w w') : Se w' v l := ⟨Sn.later h.1 b, fun x hx => Sd.later (h.2 x hx) b⟩
theorem Se.form {w : World} {v : Value} {l : List Ev} (h : Se w v l) : ∃ ao cap, v = .slice ao l.length cap ∧ l.length ≤ cap := by
  obtain ⟨⟨_, ao, cap, rfl, hc, _⟩, _⟩ := h
  exact ⟨ao, cap, rfl, hc⟩
/-- where an entry of a slice lies -/
theorem Se.at {w : World} {v : Value} {l : List Ev} (h : Se w v l) {k : Nat} {q : Ev} (hq : l[k]? = some q) : ∃ b off cap, v = .slice (some ⟨b, off, none⟩) l.length cap ∧ l.length ≤ cap ∧
    w.cell? ⟨b, off + k * 6, none⟩ = some (.string q.n.path) ∧ w.cell? ⟨b, off + k * 6 + 1, none⟩ = some (.int .i64 q.n.a) ∧ w.cell? ⟨b, off + k * 6 + 2, none⟩ = some (.int .i64 q.n.b) ∧ w.cell? ⟨b, off + k * 6 + 3, none⟩ = some (.int .i64 q.n.c) ∧ w.cell? ⟨b, off + k * 6 + 4, none⟩ = some (.string q.n.pre) ∧ w.cell? ⟨b, off + k * 6 + 5, none⟩ = some q.u ∧ Sd w q.u q.l := by
  have hk : k < l.length := (List.getElem?_eq_some_iff.1 hq).1
  obtain ⟨b, off, cap, rfl, hc, hr⟩ := Sn.at h.1 hk
  obtain ⟨h0, h1, h2, h3, h4, h5⟩ := ecs_get l k q hq
  refine ⟨b, off, cap, rfl, hc, ?_, ?_, ?_, ?_, ?_, ?_, h.2 q (List.mem_of_getElem? hq)⟩
  · have := hr 0 (by omega); rw [Nat.add_zero, h0] at this; exact this
  · have := hr 1 (by omega); rw [h1, ← Nat.add_assoc] at this; exact this
  · have := hr 2 (by omega); rw [h2, ← Nat.add_assoc] at this; exact this
  · have := hr 3 (by omega); rw [h3, ← Nat.add_assoc] at this; exact this
  · have := hr 4 (by omega); rw [h4, ← Nat.add_assoc] at this; exact this
  · have := hr 5 (by omega); rw [h5, ← Nat.add_assoc] at this; exact this

/-- is this the name that is sought -/
def isN (q n : Nd) : Bool := (n.path.toList == q.path.toList) && sameV n.a n.b n.c n.pre q.a q.b q.c q.pre
/-- the place of the first of this name -/
def at15 (q : Nd) : List Nd → Nat → Int
  | [], _ => -1
  | n :: r, k => if isN q n = true then (k : Int) else at15 q r (k + 1)
theorem at15_hit {q : Nd} : ∀ {l : List Nd} {k i : Nat} {n : Nd}, (∀ x ∈ l.take i, isN q x = false) → l[i]? = some n → isN q n = true → at15 q l k = ((k + i : Nat) : Int) := by
  intro l
  induction l with
  | nil => intro k i n _ h; simp at h
  | cons x r ih =>
    intro k i n h1 h2 h3
    cases i with
    | zero => simp at h2; subst h2; rw [at15, if_pos h3]; simp
    | succ i =>
      have hx := h1 x (by simp)
      rw [at15, if_neg (by rw [hx]; simp), ih (fun y hy => h1 y (by simp only [List.take_succ_cons, List.mem_cons]; exact .inr hy)) (by simpa using h2) h3]
      congr 1
      omega
theorem at15_none {q : Nd} : ∀ {l : List Nd} {k : Nat}, (∀ x ∈ l, isN q x = false) → at15 q l k = -1 := by
  intro l
  induction l with
  | nil => intro k _; rfl
  | cons x r ih => intro k h; rw [at15, if_neg (by rw [h x (List.mem_cons_self ..)]; simp)]; exact ih fun y hy => h y (List.mem_cons_of_mem _ hy)
/-- what the three functions answer -/
def find15 (q : Nd) (l : List Ev) : Option Ev := l.find? fun x => isN q x.n
def vers15 (p : ByteArray) (l : List Nd) : List Nd := l.filter fun x => x.path.toList == p.toList
def lack15 (l : List Nd) (s : List Nd) : List Nd := s.filter fun q => decide (at15 q l 0 < 0)
theorem take_snoc15 {α : Type} {l : List α} {k : Nat} {x : α} (h : l[k]? = some x) : l.take (k + 1) = l.take k ++ [x] := by
  rw [List.take_add_one, h]; rfl
theorem filter_snoc15 {α : Type} {l : List α} {k : Nat} {x : α} (f : α → Bool) (h : l[k]? = some x) : (l.take (k + 1)).filter f = if f x = true then (l.take k).filter f ++ [x] else (l.take k).filter f := by
  rw [take_snoc15 h, List.filter_append]
  cases hx : f x <;> simp [List.filter, hx]

end Go.Proofs.YtlhmemnaiobgkaaGreatDoor.Fe

/- Chapter 15, the specification's side: where an entry is. -/
namespace Go.Proofs.YtlhmemnaiobgkaaGreatDoor.Fe
open Go.RowKit Go.Proofs.YtlhmemnaiobgkaaGreatDoor.Mem Go.Proofs.YtlhmemnaiobgkaaGreatDoor.Laws Go.Proofs.YtlhmemnaiobgkaaGreatDoor.Ver Go.Proofs.YtlhmemnaiobgkaaGreatDoor.Ent
set_option linter.unusedVariables false
set_option linter.unusedSimpArgs false

set_option maxRecDepth 1000000 in
set_option maxHeartbeats 4000000 in
theorem at15_spec (w : World) (v : Value) (l : List Ev) (q : Nd) (h : Se w v l) (hl : l.length ≤ 1000000000000) :
    Calls Tryz.prog 45 #[v, .string q.path, .agg #[.int .i64 q.a, .int .i64 q.b, .int .i64 q.c, .string q.pre]] w fun e w' => e = .returned (.int .i64 (at15 q (l.map Ev.n) 0)) ∧ Below w.heap.size w w' := by
  have HS : Hid (Se w v l) := h
  obtain ⟨ao, cap, rfl, hcap⟩ := h.form
  clear h
  have B0 : Hid (Below w.heap.size w w) := Below.refl _ _
  obtain ⟨W1, HW1, b1, y1, hS1, r_q1⟩ := Ke.l1 w #[.int .i64 q.a, .int .i64 q.b, .int .i64 q.c, .string q.pre] 32
  have z1 := b1.size
  have B1 := Ke.b B0 b1
  have c_q1 := Ke.c r_q1
  go_enter Tryz.func45, Tryz.ntmps45
  go_wp2_with fail
  rw [HW1.out]
  go_loopw [7] (fun i wr => ∃ k : Nat, k ≤ l.length ∧ i = .int .i64 (k : Int) ∧ Hid (∀ x ∈ (l.map Ev.n).take k, isN q x = false) ∧ Hid (Below w.heap.size w wr) ∧ Hid (wr.heap[w.heap.size]? = some (.cells #[.int .i64 q.a, .int .i64 q.b, .int .i64 q.c, .string q.pre] 32 (0, 0)))) (fun i _ => l.length - (intOf i).toNat)
  case atStart => exact ⟨0, Nat.zero_le _, rfl, (fun x hx => by simp at hx), B1, r_q1⟩
  case round =>
    obtain ⟨k, hk, rfl, HN, B2, r_q2⟩ := hrel
    obtain ⟨W2, hW2⟩ : ∃ X, X = wr := ⟨_, rfl⟩
    subst hW2
    clear r_q1 c_q1
    have c_q2 := Ke.c r_q2
    by_cases hlt : k < l.length
    · have hlt2 : (k : Int) < (l.length : Int) := by omega
      obtain ⟨x, hx⟩ : ∃ x, l[k]? = some x := ⟨l[k], by simp [hlt]⟩
      obtain ⟨b, off, cap9, he, _, m0, m1, m2, m3, m4, m5, _⟩ := Se.at (HS.out.later B2.out) hx
      simp only [Value.slice.injEq] at he
      obtain ⟨rfl, _, rfl⟩ := he
      have HX : Hid (l[k]? = some x) := hx
      clear hx
      obtain ⟨P, hP⟩ : ∃ P, (x.n.path.toList == q.path.toList) = P := ⟨_, rfl⟩
      obtain ⟨V, hV⟩ : ∃ V, sameV x.n.a x.n.b x.n.c x.n.pre q.a q.b q.c q.pre = V := ⟨_, rfl⟩
      have HI : Hid (isN q x.n = (P && V)) := by show isN _ _ = _; unfold isN; rw [hP, hV]
      have ev : ∀ W, _ := fun W => eqlV W x.n.a x.n.b x.n.c x.n.pre q.a q.b q.c q.pre
      simp only [hV] at ev
      have gv : ∀ W op y z xs ys, _ := fun W op y z xs ys => grdV W op y z xs ys
      clear hV
      cases P
      · go_wp2_with fail
        refine wp_region_held_drew (S := fun w' => w'.cell? ⟨w.heap.size, 0, none⟩ = some (.int .i64 q.a) ∧ w'.cell? ⟨w.heap.size, 1, none⟩ = some (.int .i64 q.b) ∧ w'.cell? ⟨w.heap.size, 2, none⟩ = some (.int .i64 q.c) ∧ w'.cell? ⟨w.heap.size, 3, none⟩ = some (.string q.pre) ∧ w'.cell? ⟨b, off + k * 6, none⟩ = some (.string x.n.path) ∧ w'.cell? ⟨b, off + k * 6 + 1, none⟩ = some (.int .i64 x.n.a) ∧ w'.cell? ⟨b, off + k * 6 + 2, none⟩ = some (.int .i64 x.n.b) ∧ w'.cell? ⟨b, off + k * 6 + 3, none⟩ = some (.int .i64 x.n.c) ∧ w'.cell? ⟨b, off + k * 6 + 4, none⟩ = some (.string x.n.pre)) (by kernel_rfl) ⟨(c_q2 0), (c_q2 1), (c_q2 2), (c_q2 3), m0, m1, m2, m3, m4⟩ (fun hHeld => ?_)
        refine Ke.y 0 rfl (fun _ _ _ h => h) ?_
        try simp only [Act.put, pu1, pu2, pu3, pu4, pu5, pu6]
        refine Ke.y 1 rfl (fun _ _ _ h => h) ?_
        try simp only [Act.put, pu1, pu2, pu3, pu4, pu5, pu6]
        refine Ke.y 2 rfl (fun _ _ _ h => h) ?_
        try simp only [Act.put, pu1, pu2, pu3, pu4, pu5, pu6]
        refine Ke.y 3 rfl (fun _ _ _ h => h) ?_
        try simp only [Act.put, pu1, pu2, pu3, pu4, pu5, pu6]
        refine Ke.y 4 rfl (fun _ _ _ h => h) ?_
        try simp only [Act.put, pu1, pu2, pu3, pu4, pu5, pu6]
        refine Ke.y 5 rfl (fun _ _ _ h => h) ?_
        try simp only [Act.put, pu1, pu2, pu3, pu4, pu5, pu6]
        refine Ke.y 6 rfl (fun _ _ _ h => h) ?_
        try simp only [Act.put, pu1, pu2, pu3, pu4, pu5, pu6]
        refine Ke.y 7 rfl (fun _ _ _ h => h) ?_
        try simp only [Act.put, pu1, pu2, pu3, pu4, pu5, pu6]
        refine Ke.x 8 rfl (fun _ _ _ h => h) ?_
        try simp only [Act.put, pu1, pu2, pu3, pu4, pu5, pu6]
        refine Ke.x 9 rfl (fun _ _ _ h => h) ?_
        try simp only [Act.put, pu1, pu2, pu3, pu4, pu5, pu6]
        refine Ke.x 10 rfl (fun _ _ _ h => h) ?_
        try simp only [Act.put, pu1, pu2, pu3, pu4, pu5, pu6]
        refine Ke.x 11 rfl (fun _ _ _ h => h) ?_
        try simp only [Act.put, pu1, pu2, pu3, pu4, pu5, pu6]
        refine Ke.x 12 rfl (fun _ _ _ h => h) ?_
        try simp only [Act.put, pu1, pu2, pu3, pu4, pu5, pu6]
        refine Ke.x 13 rfl (fun _ _ _ h => h) ?_
        try simp only [Act.put, pu1, pu2, pu3, pu4, pu5, pu6]
        refine Ke.x 14 rfl (fun _ _ _ h => h) ?_
        try simp only [Act.put, pu1, pu2, pu3, pu4, pu5, pu6]
        refine Ke.y 15 rfl (fun _ _ _ h => h) ?_
        try simp only [Act.put, pu1, pu2, pu3, pu4, pu5, pu6]
        refine wpAnyH_done (by kernel_rfl) ?_ _
        clear hHeld
        obtain ⟨W3, HW3, b3⟩ : ∃ X, Hid (W2.drew = X) ∧ Below W2.heap.size W2 X := ⟨_, rfl, Below.drew (Below.refl _ _)⟩
        rw [HW3.out]
        have z3 := b3.size
        have B3 := Ke.b B2 b3
        have r_q3 := Ke.r r_q2 b3
        have c_q3 := Ke.c r_q3
        clear r_q2 c_q2
        go_wp2
        go_roundw
        case rel => exact ⟨k + 1, by omega, by go_num, fun y hy => by rw [take_snoc15 (show (l.map Ev.n)[k]? = some x.n by rw [List.getElem?_map, HX.out]; rfl)] at hy; rcases List.mem_append.1 hy with h9 | h9; exact HN.out y h9; rw [List.mem_singleton.1 h9]; exact HI.out, B3, r_q3⟩
        case measure => simp [intOf]; omega
      · go_wp2_with fail
        refine wp_region_held_drew (S := fun w' => w'.cell? ⟨w.heap.size, 0, none⟩ = some (.int .i64 q.a) ∧ w'.cell? ⟨w.heap.size, 1, none⟩ = some (.int .i64 q.b) ∧ w'.cell? ⟨w.heap.size, 2, none⟩ = some (.int .i64 q.c) ∧ w'.cell? ⟨w.heap.size, 3, none⟩ = some (.string q.pre) ∧ w'.cell? ⟨b, off + k * 6, none⟩ = some (.string x.n.path) ∧ w'.cell? ⟨b, off + k * 6 + 1, none⟩ = some (.int .i64 x.n.a) ∧ w'.cell? ⟨b, off + k * 6 + 2, none⟩ = some (.int .i64 x.n.b) ∧ w'.cell? ⟨b, off + k * 6 + 3, none⟩ = some (.int .i64 x.n.c) ∧ w'.cell? ⟨b, off + k * 6 + 4, none⟩ = some (.string x.n.pre)) (by kernel_rfl) ⟨(c_q2 0), (c_q2 1), (c_q2 2), (c_q2 3), m0, m1, m2, m3, m4⟩ (fun hHeld => ?_)
        refine Ke.y 0 rfl (fun _ _ _ h => h) ?_
        try simp only [Act.put, pu1, pu2, pu3, pu4, pu5, pu6]
        refine Ke.y 1 rfl (fun _ _ _ h => h) ?_
        try simp only [Act.put, pu1, pu2, pu3, pu4, pu5, pu6]
        refine Ke.y 2 rfl (fun _ _ _ h => h) ?_
        try simp only [Act.put, pu1, pu2, pu3, pu4, pu5, pu6]
        refine Ke.y 3 rfl (fun _ _ _ h => h) ?_
        try simp only [Act.put, pu1, pu2, pu3, pu4, pu5, pu6]
        refine Ke.y 4 rfl (fun _ _ _ h => h) ?_
        try simp only [Act.put, pu1, pu2, pu3, pu4, pu5, pu6]
        refine Ke.y 5 rfl (fun _ _ _ h => h) ?_
        try simp only [Act.put, pu1, pu2, pu3, pu4, pu5, pu6]
        refine Ke.y 6 rfl (fun _ _ _ h => h) ?_
        try simp only [Act.put, pu1, pu2, pu3, pu4, pu5, pu6]
        refine Ke.y 7 rfl (fun _ _ _ h => h) ?_
        try simp only [Act.put, pu1, pu2, pu3, pu4, pu5, pu6]
        refine Ke.y 8 rfl (fun _ _ _ h => h) ?_
        try simp only [Act.put, pu1, pu2, pu3, pu4, pu5, pu6]
        refine Ke.y 9 rfl (fun _ _ _ h => h) ?_
        try simp only [Act.put, pu1, pu2, pu3, pu4, pu5, pu6]
        refine Ke.y 10 rfl (fun _ _ _ h => h) ?_
        try simp only [Act.put, pu1, pu2, pu3, pu4, pu5, pu6]
        refine Ke.y 11 rfl (fun _ _ _ h => h) ?_
        try simp only [Act.put, pu1, pu2, pu3, pu4, pu5, pu6]
        refine Ke.y 12 rfl (fun _ _ _ h => h) ?_
        try simp only [Act.put, pu1, pu2, pu3, pu4, pu5, pu6]
        refine Ke.y 13 rfl (fun _ _ _ h => h) ?_
        try simp only [Act.put, pu1, pu2, pu3, pu4, pu5, pu6]
        refine Ke.y 14 rfl (fun _ _ _ h => h) ?_
        try simp only [Act.put, pu1, pu2, pu3, pu4, pu5, pu6]
        refine Ke.y 15 rfl (fun _ _ _ h => h) ?_
        try simp only [Act.put, pu1, pu2, pu3, pu4, pu5, pu6]
        refine wpAnyH_done (by kernel_rfl) ?_ _
        clear hHeld
        obtain ⟨W3, HW3, b3⟩ : ∃ X, Hid (W2.drew = X) ∧ Below W2.heap.size W2 X := ⟨_, rfl, Below.drew (Below.refl _ _)⟩
        rw [HW3.out]
        have z3 := b3.size
        have B3 := Ke.b B2 b3
        have r_q3 := Ke.r r_q2 b3
        have c_q3 := Ke.c r_q3
        clear r_q2 c_q2
        cases V
        · go_wp2
          go_roundw
          case rel => exact ⟨k + 1, by omega, by go_num, fun y hy => by rw [take_snoc15 (show (l.map Ev.n)[k]? = some x.n by rw [List.getElem?_map, HX.out]; rfl)] at hy; rcases List.mem_append.1 hy with h9 | h9; exact HN.out y h9; rw [List.mem_singleton.1 h9]; exact HI.out, B3, r_q3⟩
          case measure => simp [intOf]; omega
        · go_wp2
          go_ret
          exact ⟨by rw [at15_hit (i := k) HN.out (show (l.map Ev.n)[k]? = some x.n by rw [List.getElem?_map, HX.out]; rfl) HI.out, Nat.zero_add]; rfl, B3.out⟩
    · have hlt2 : ¬ (k : Int) < (l.length : Int) := by omega
      have HE : Hid (k = l.length) := by show _ = _; omega
      go_wp2
      go_ret
      exact ⟨by rw [at15_none (fun y hy => HN.out y (by rw [HE.out, List.take_of_length_le (by simp)]; exact hy))]; rfl, B2.out⟩

end Go.Proofs.YtlhmemnaiobgkaaGreatDoor.Fe

/- Chapter 15, the specification's side: what is lacking. -/
namespace Go.Proofs.YtlhmemnaiobgkaaGreatDoor.Fe
open Go.RowKit Go.Proofs.YtlhmemnaiobgkaaGreatDoor.Mem Go.Proofs.YtlhmemnaiobgkaaGreatDoor.Laws Go.Proofs.YtlhmemnaiobgkaaGreatDoor.Ver Go.Proofs.YtlhmemnaiobgkaaGreatDoor.Ent
set_option linter.unusedVariables false
set_option linter.unusedSimpArgs false

theorem Od.up {w w' : World} {lo : Nat} {v : Value} {l : List Nd} (h : Od w lo w.heap.size v l) (b : Below w.heap.size w w') : Od w' lo w'.heap.size v l := On.mono (On.later h b (Nat.le_refl _)) (Nat.le_refl _) b.size
theorem Od.snoc {w : World} {lo hi : Nat} {v : Value} {l : List Nd} {n : Nd} (o : On 5 w lo hi 38 v (l.length + 1) (nds l ++ n.cs)) : Od w lo hi v (l ++ [n]) := by
  unfold Od
  rw [nds_snoc, List.length_append]
  exact o
theorem cs_oneN (n : Nd) : ∀ u ∈ n.cs, u.oneCell' = true := by
  intro u hu
  simp only [Nd.cs, List.mem_cons, List.not_mem_nil, or_false] at hu
  rcases hu with rfl | rfl | rfl | rfl | rfl <;> rfl

end Go.Proofs.YtlhmemnaiobgkaaGreatDoor.Fe

/- Chapter 15, the specification's side: the versions of a path. -/
namespace Go.Proofs.YtlhmemnaiobgkaaGreatDoor.Fe
open Go.RowKit Go.Proofs.YtlhmemnaiobgkaaGreatDoor.Mem Go.Proofs.YtlhmemnaiobgkaaGreatDoor.Laws Go.Proofs.YtlhmemnaiobgkaaGreatDoor.Ver Go.Proofs.YtlhmemnaiobgkaaGreatDoor.Ent
set_option linter.unusedVariables false
set_option linter.unusedSimpArgs false

def vcs : List Nd → List Value
  | [] => []
  | n :: r => .int .i64 n.a :: .int .i64 n.b :: .int .i64 n.c :: .string n.pre :: vcs r
theorem vcs_len : ∀ l : List Nd, (vcs l).length = l.length * 4 := by
  intro l
  induction l with
  | nil => rfl
  | cons q r ih => simp [vcs, ih]; omega
theorem vcs_app (l m : List Nd) : vcs (l ++ m) = vcs l ++ vcs m := by
  induction l with
  | nil => rfl
  | cons q r ih => simp [vcs, ih]
def vc (n : Nd) : Array Value := #[.int .i64 n.a, .int .i64 n.b, .int .i64 n.c, .string n.pre]
theorem vc_one (n : Nd) : ∀ u ∈ (vc n).toList, u.oneCell' = true := by
  intro u hu
  simp only [vc, List.mem_cons, List.not_mem_nil, or_false] at hu
  rcases hu with rfl | rfl | rfl | rfl <;> rfl
/-- v owns the versions of these -/
def Ow (w : World) (lo hi : Nat) (v : Value) (l : List Nd) : Prop := On 4 w lo hi 32 v l.length (vcs l)
theorem Ow.snoc {w : World} {lo hi : Nat} {v : Value} {l : List Nd} {n : Nd} (o : On 4 w lo hi 32 v (l.length + 1) (vcs l ++ (vc n).toList)) : Ow w lo hi v (l ++ [n]) := by
  unfold Ow
  rw [vcs_app, List.length_append]
  exact o
theorem infoVe : (Tryz.prog.info? 32).map (fun i => (i.zero, i.size, i.bytes)) = some (some (.agg #[.int .i64 0, .int .i64 0, .int .i64 0, .string ⟨#[]⟩]), 4, 40) := by kernel_rfl

end Go.Proofs.YtlhmemnaiobgkaaGreatDoor.Fe

/- Chapter 15, the specification's side: an entry's copy, an entry that is found. -/
namespace Go.Proofs.YtlhmemnaiobgkaaGreatDoor.Fe
open Go.RowKit Go.Proofs.YtlhmemnaiobgkaaGreatDoor.Mem Go.Proofs.YtlhmemnaiobgkaaGreatDoor.Laws Go.Proofs.YtlhmemnaiobgkaaGreatDoor.Ver Go.Proofs.YtlhmemnaiobgkaaGreatDoor.Ent
set_option linter.unusedVariables false
set_option linter.unusedSimpArgs false

/-- needs that are owned, and end ahead of what is new -/
def Odt (w : World) (lo hi : Nat) (v : Value) (l : List Nd) : Prop := Od w lo hi v l ∧ hi ≤ w.heap.size
theorem Odt.later {w w' : World} {lo hi : Nat} {v : Value} {l : List Nd} (h : Odt w lo hi v l) (b : Below w.heap.size w w') : Odt w' lo hi v l := ⟨On.later h.1 b h.2, Nat.le_trans h.2 b.size⟩
theorem Odt.gro {w w' : World} {lo hi : Nat} {v : Value} {l : List Nd} {r : Option Nat} (h : Odt w lo hi v l) (g : w.grownBy w' r) (hr : ∀ k, r = some k → k < lo ∨ hi ≤ k) : Odt w' lo hi v l :=
  ⟨On.keep h.1 fun k h1 h2 => g.block k (by have := h.2; omega) (fun e => by have := hr k e.symm; omega), Nat.le_trans h.2 g.size⟩
theorem Odt.wide {w : World} {lo hi lo' : Nat} {v : Value} {l : List Nd} (h : Odt w lo hi v l) (h1 : lo' ≤ lo) : Od w lo' w.heap.size v l := On.mono h.1 h1 h.2
/-- what is found -/
def none15 : Nd := ⟨⟨#[]⟩, 0, 0, 0, ⟨#[]⟩⟩
def res15 (q : Nd) (l : List Ev) : Nd × List Nd × Bool := match l.find? (fun x => isN q x.n) with
  | none => (none15, [], false)
  | some x => (x.n, x.l, true)
theorem at15_find (q : Nd) : ∀ (l : List Ev) (j : Nat), (at15 q (l.map Ev.n) j = -1 ∧ l.find? (fun x => isN q x.n) = none) ∨ (∃ (k : Nat) (x : Ev), at15 q (l.map Ev.n) j = ((j + k : Nat) : Int) ∧ l[k]? = some x ∧ l.find? (fun x => isN q x.n) = some x) := by
  intro l
  induction l with
  | nil => intro j; exact .inl ⟨rfl, rfl⟩
  | cons y r ih =>
    intro j
    rw [List.map_cons, at15, List.find?_cons]
    cases hy : isN q y.n with
    | true => exact .inr ⟨0, y, by simp, rfl, rfl⟩
    | false =>
      simp only [Bool.false_eq_true, if_false]
      rcases ih (j + 1) with ⟨h1, h2⟩ | ⟨k, x, h1, h2, h3⟩
      · exact .inl ⟨h1, h2⟩
      · exact .inr ⟨k + 1, x, by rw [h1]; congr 1; omega, by simpa using h2, h3⟩

end Go.Proofs.YtlhmemnaiobgkaaGreatDoor.Fe

/- Chapter 15, the laws' helpers: entries in a slice that a call owns; lists of entries, turned. -/
namespace Go.Proofs.YtlhmemnaiobgkaaGreatDoor.Fe
open Go.RowKit Go.Proofs.YtlhmemnaiobgkaaGreatDoor.Mem Go.Proofs.YtlhmemnaiobgkaaGreatDoor.Laws Go.Proofs.YtlhmemnaiobgkaaGreatDoor.Ver Go.Proofs.YtlhmemnaiobgkaaGreatDoor.Ent
set_option linter.unusedVariables false
set_option linter.unusedSimpArgs false

theorem On.keep1 {n m : Nat} {w w' : World} {lo hi : Nat} {e : TypeId} {v : Value} {cs : List Value} (h : On n w lo hi e v m cs) (hk : ∀ g, v.ownBlock = some g → w'.heap[g]? = w.heap[g]?) : On n w' lo hi e v m cs := by
  obtain ⟨⟨h1, h2⟩, h3⟩ := h
  refine ⟨⟨h1, ?_⟩, h3⟩
  rcases h2 with h2 | ⟨g, cap, cur, rfl, hb, hg, r⟩
  · exact .inl h2
  · exact .inr ⟨g, cap, cur, rfl, hb, by rw [hk g rfl]; exact hg, r⟩
theorem On.neRow {n m : Nat} {w : World} {lo hi g : Nat} {e t : TypeId} {v : Value} {cs : List Value} {cs' : Array Value} {fr : Nat × Nat} (h : On n w lo hi e v m cs) (hr : w.heap[g]? = some (.cells cs' t fr)) (ht : t ≠ e) : v.ownBlock ≠ some g := by
  intro hv
  obtain ⟨⟨h1, h2⟩, h3⟩ := h
  rcases h2 with ⟨rfl, _⟩ | ⟨g', cap, cur, rfl, hb, hg, r⟩
  · simp [Value.ownBlock] at hv
  · simp [Value.ownBlock] at hv
    subst hv
    rw [hg] at hr
    simp at hr
    exact ht hr.2.1.symm
theorem On.lt {n m : Nat} {w : World} {lo hi : Nat} {e : TypeId} {v : Value} {cs : List Value} (h : On n w lo hi e v m cs) {g : Nat} (hg : v.ownBlock = some g) : lo ≤ g ∧ g < hi ∧ g < w.heap.size := ⟨(h.1.lt g hg).1, h.2 g hg, (h.1.lt g hg).2⟩
/-- just its own block -/
theorem On.narrow {n m : Nat} {w : World} {lo hi : Nat} {e : TypeId} {v : Value} {cs : List Value} (h : On n w lo hi e v m cs) {g : Nat} (hg : v.ownBlock = some g) : On n w g (g + 1) e v m cs := by
  obtain ⟨⟨h1, h2⟩, h3⟩ := h
  refine ⟨⟨h1, ?_⟩, fun k hk => by rw [hg] at hk; injection hk; omega⟩
  rcases h2 with h2 | ⟨g', cap, cur, rfl, hb, r⟩
  · exact .inl h2
  · simp [Value.ownBlock] at hg
    subst hg
    exact .inr ⟨g', cap, cur, rfl, Nat.le_refl _, r⟩

/-- each has needs that are owned, and no two the same -/
def Ins (w : World) (lo hi : Nat) (T : List Ev) : Prop := (∀ x ∈ T, Od w lo hi x.u x.l) ∧ T.Pairwise fun x y => ∀ k, x.u.ownBlock = some k → y.u.ownBlock ≠ some k
theorem Ins.nil (w : World) (lo hi : Nat) : Ins w lo hi [] := ⟨fun x hx => (by cases hx), List.Pairwise.nil⟩
theorem Ins.keep {w w' : World} {lo hi : Nat} {T : List Ev} (h : Ins w lo hi T) (hk : ∀ x ∈ T, ∀ g, x.u.ownBlock = some g → w'.heap[g]? = w.heap[g]?) : Ins w' lo hi T := ⟨fun x hx => On.keep1 (h.1 x hx) (hk x hx), h.2⟩
theorem Ins.later {w w' : World} {lo hi B : Nat} {T : List Ev} (h : Ins w lo hi T) (b : Below B w w') (hh : hi ≤ B) : Ins w' lo hi T :=
  h.keep fun x hx g hg => b.block g (by have := (On.lt (h.1 x hx) hg).2.1; omega)
theorem Ins.mono {w : World} {lo hi lo' hi' : Nat} {T : List Ev} (h : Ins w lo hi T) (h1 : lo' ≤ lo) (h2 : hi ≤ hi') : Ins w lo' hi' T := ⟨fun x hx => On.mono (h.1 x hx) h1 h2, h.2⟩
theorem Ins.snoc {w : World} {lo hi lo2 hi2 : Nat} {T : List Ev} {x : Ev} (h : Ins w lo hi T) (hx : Od w lo2 hi2 x.u x.l) (h1 : hi ≤ lo2) (h2 : lo ≤ lo2) (h3 : hi ≤ hi2) : Ins w lo hi2 (T ++ [x]) := by
  refine ⟨fun y hy => ?_, ?_⟩
  · rcases List.mem_append.1 hy with h9 | h9
    · exact On.mono (h.1 y h9) (Nat.le_refl _) h3
    · rw [List.mem_singleton.1 h9]; exact On.mono hx h2 (Nat.le_refl _)
  · refine List.pairwise_append.2 ⟨h.2, List.pairwise_singleton _ _, fun y hy z hz k hk hk2 => ?_⟩
    rw [List.mem_singleton.1 hz] at hk2
    have a1 := (On.lt (h.1 y hy) hk).2.1
    have a2 := (On.lt hx hk2).1
    omega
theorem ecs_snoc (T : List Ev) (x : Ev) : ecs (T ++ [x]) = ecs T ++ (ec x.n x.u).toList := by rw [ecs_app]; rfl
/-- v owns these entries, and their needs -/
def Oes (w : World) (lo hi : Nat) (v : Value) (T : List Ev) : Prop := On 6 w lo hi 34 v T.length (ecs T) ∧ Ins w lo hi T
theorem Oes.se {w : World} {lo hi : Nat} {v : Value} {T : List Ev} (h : Oes w lo hi v T) : Se w v T := ⟨On.sn h.1, fun x hx => (h.2.1 x hx).sd⟩
theorem Oes.later {w w' : World} {lo hi B : Nat} {v : Value} {T : List Ev} (h : Oes w lo hi v T) (b : Below B w w') (hh : hi ≤ B) : Oes w' lo hi v T := ⟨On.later h.1 b hh, h.2.later b hh⟩
theorem Oes.apart {w w' : World} {lo hi l2 h2 : Nat} {v : Value} {T : List Ev} (h : Oes w lo hi v T) (a : Apart l2 h2 w w') (hd : hi ≤ l2 ∨ h2 ≤ lo) (hs : hi ≤ w.heap.size) : Oes w' lo hi v T :=
  ⟨On.apart h.1 a hd hs, h.2.keep fun x hx g hg => a.block g (by have := (On.lt (h.2.1 x hx) hg).2.2; omega) (by have := On.lt (h.2.1 x hx) hg; omega)⟩
theorem Oes.mono {w : World} {lo hi lo' hi' : Nat} {v : Value} {T : List Ev} (h : Oes w lo hi v T) (h1 : lo' ≤ lo) (h2 : hi ≤ hi') : Oes w lo' hi' v T := ⟨On.mono h.1 h1 h2, h.2.mono h1 h2⟩
theorem Oes.slice {w : World} {lo hi : Nat} {v : Value} {T : List Ev} (h : Oes w lo hi v T) : ∃ ao cap, v = .slice ao T.length cap := On.slice h.1
/-- the same entries, wherever their needs lie -/
def key15 (x : Ev) : Nd × List Nd := (x.n, x.l)
def Alk (l T : List Ev) : Prop := T.map key15 = l.map key15
theorem Alk.len {l T : List Ev} (h : Alk l T) : T.length = l.length := by have := congrArg List.length h; simpa using this
theorem Alk.names {l T : List Ev} (h : Alk l T) : T.map Ev.n = l.map Ev.n := by have := congrArg (List.map Prod.fst) h; rw [List.map_map, List.map_map] at this; exact this
theorem Alk.get {l T : List Ev} (h : Alk l T) {k : Nat} {x y : Ev} (hx : l[k]? = some x) (hy : T[k]? = some y) : y.n = x.n ∧ y.l = x.l := by
  have := congrArg (fun s => s[k]?) h
  simp only [List.getElem?_map, hx, hy, Option.map_some, Option.some.injEq, key15, Prod.mk.injEq] at this
  exact this
theorem Alk.refl (l : List Ev) : Alk l l := rfl
theorem Alk.symm {l T : List Ev} (h : Alk l T) : Alk T l := Eq.symm h
theorem Alk.trans {l T S : List Ev} (h : Alk l T) (k : Alk T S) : Alk l S := Eq.trans k h
theorem Alk.all {l T : List Ev} (h : Alk l T) {p : Nd → List Nd → Prop} (hp : ∀ x ∈ l, p x.n x.l) : ∀ y ∈ T, p y.n y.l := by
  intro y hy
  have : key15 y ∈ l.map key15 := by rw [← h]; exact List.mem_map.2 ⟨y, hy, rfl⟩
  obtain ⟨x, hx, he⟩ := List.mem_map.1 this
  simp only [key15, Prod.mk.injEq] at he
  have := hp x hx
  rw [he.1, he.2] at this
  exact this

theorem infoEn : (Tryz.prog.info? 34).map (fun i => (i.zero, i.size, i.bytes)) = some (some (.agg #[.string ⟨#[]⟩, .int .i64 0, .int .i64 0, .int .i64 0, .string ⟨#[]⟩, .slice none 0 0]), 6, 80) := by kernel_rfl

set_option maxRecDepth 1000000 in
set_option maxHeartbeats 2000000 in
/-- a list of entries, turned: a copy in new memory -/
theorem to_entries (w : World) (v : Value) (l : List Ev) (h : Se w v l) (hx : l.length ≤ 1000000000) (hn : ∀ x ∈ l, x.l.length ≤ 1000000000) :
    Calls Tryz.prog 26 #[v] w fun e w' => ∃ v' T, e = .returned v' ∧ Oes w' w.heap.size w'.heap.size v' T ∧ Alk l T ∧ Below w.heap.size w w' := by
  obtain ⟨i0, hi, hz0, hz1, hz2⟩ := info_parts infoEn
  have HS : Hid (Se w v l) := h
  have HN : Hid (∀ x ∈ l, x.l.length ≤ 1000000000) := hn
  obtain ⟨ao, cap, rfl, hcap⟩ := h.form
  clear h hn
  go_enter Tryz.func26, Tryz.ntmps26
  go_wp2_with (first | (at_make; refine wpList_make_full _ rfl _ _ 24 rfl w.heap.size 34 i0 (.agg #[.string ⟨#[]⟩, .int .i64 0, .int .i64 0, .int .i64 0, .string ⟨#[]⟩, .slice none 0 0]) 6 Tryz.underlying24 hi hz0 hz1 _ _ _ _ l.length rfl rfl rfl rfl (by rw [hz2]; omega) (by unfold maxLen; omega) (Nat.le_refl _) ?_; intro w1 hown hgrow))
  have hbel : Below w.heap.size w w1 := (Below.refl _ _).grown hgrow (Nat.le_refl _) (by simp)
  have hsz : w.heap.size < w1.heap.size := (hown.lt w.heap.size rfl).2
  clear hgrow
  go_loopw [4] (fun i wr => ∃ (k : Nat) (L : List Value) (T : List Ev), k ≤ l.length ∧ i = .int .i64 (k : Int) ∧ Hid (T.length = k) ∧ Hid (Alk (l.take k) T) ∧ Hid (L.take (k * 6) = ecs T) ∧ wr.ownsRow w.heap.size 34 6 (.slice (some ⟨w.heap.size, 0, none⟩) l.length l.length) l.length L ∧ Hid (Ins wr w.heap.size wr.heap.size T) ∧ Below w.heap.size w wr) (fun i _ => l.length - (intOf i).toNat)
  case atStart => exact ⟨0, _, [], Nat.zero_le _, rfl, rfl, rfl, by show _ = _; simp [ecs], hown, Ins.nil _ _ _, hbel⟩
  case round =>
    obtain ⟨k, L, T, hk, rfl, HTL, HAL, HE, hownr, HI, hbr⟩ := hrel
    have HL : Hid (L.length = l.length * 6) := hownr.1
    clear hown hbel
    by_cases hlt : k < l.length
    · obtain ⟨x, hx⟩ : ∃ x, l[k]? = some x := ⟨l[k], by simp [hlt]⟩
      obtain ⟨b, off, cap', he, _, c0, c1, c2, c3, c4, c5, hsd⟩ := Se.at (HS.out.later hbr) hx
      simp only [Value.slice.injEq] at he
      obtain ⟨rfl, _, rfl⟩ := he
      have q := to_entry wr x.n x.u x.l hsd (HN.out x (List.mem_of_getElem? hx))
      have HX : Hid (l[k]? = some x) := hx
      obtain ⟨ao9, L9, cap9, hu, hL9a, hL9b⟩ : ∃ ao9 L9 cap9, x.u = .slice ao9 L9 cap9 ∧ L9 ≤ x.l.length ∧ x.l.length ≤ L9 := by
        obtain ⟨_, ao9, cap9, hu, _⟩ := hsd
        exact ⟨ao9, _, cap9, hu, Nat.le_refl _, Nat.le_refl _⟩
      rw [hu] at q c5
      clear hx hsd
      have HO : Hid (wr.ownsRow w.heap.size 34 6 (.slice (some ⟨w.heap.size, 0, none⟩) l.length l.length) l.length L) := hownr
      have hgw : w.heap.size < wr.heap.size := (hownr.lt w.heap.size rfl).2
      clear hownr hu
      go_wp2_with fail
      refine q.mono ?_
      rintro e w4 ⟨v4, rfl, od4, b4⟩
      have ho4 : w4.ownsRow w.heap.size 34 6 (.slice (some ⟨w.heap.size, 0, none⟩) l.length l.length) l.length L := ((On.of HO.out).later b4 (Nat.le_refl _)).1
      have hB4 : Below w.heap.size w w4 := hbr.trans (b4.mono hbr.size)
      have hI4 : Ins w4 w.heap.size w4.heap.size (T ++ [⟨x.n, v4, x.l⟩]) := Ins.snoc (x := ⟨x.n, v4, x.l⟩) (HI.out.later b4 (Nat.le_refl _)) od4 (Nat.le_refl _) (by omega) b4.size
      have th : w4.there w.heap.size (k * 6) 6 := there_own ho4 (by omega)
      obtain ⟨ao4, cap4, rfl⟩ := Od.slice od4
      obtain ⟨cur4, hrow4⟩ : ∃ cur, w4.heap[w.heap.size]? = some (.cells cur 34 (0, 0)) := by
        rcases ho4.2 with ⟨h9, _⟩ | ⟨g, cp, cur, h9, _, hg, _⟩
        · simp at h9
        · simp only [Value.slice.injEq, Option.some.injEq, Addr.mk.injEq, and_true, true_and] at h9
          obtain ⟨rfl, _⟩ := h9
          exact ⟨cur, hg⟩
      obtain ⟨W5, HW5, HO5, HB5, HI5⟩ : ∃ W5, Hid (w4.setCells w.heap.size (k * 6) (ec x.n (.slice ao4 x.l.length cap4)).toList = W5) ∧ Hid (W5.ownsRow w.heap.size 34 6 (.slice (some ⟨w.heap.size, 0, none⟩) l.length l.length) l.length (putL L (k * 6) (ec x.n (.slice ao4 x.l.length cap4)).toList)) ∧ Hid (Below w.heap.size w W5) ∧ Hid (Ins W5 w.heap.size W5.heap.size (T ++ [⟨x.n, .slice ao4 x.l.length cap4, x.l⟩])) :=
        ⟨_, rfl, own_setCells _ (k * 6) w4 L ho4, below_setCells (Nat.le_refl _) _ _ w4 hB4, by rw [Hid, size_setCells]; exact hI4.keep fun y hy g hg => heap_setCells_other _ _ (fun e9 => On.neRow (hI4.1 y hy) hrow4 (by decide) (hg.trans (congrArg some e9))) _ _ w4⟩
      have HP : Hid ((putL L (k * 6) (ec x.n (.slice ao4 x.l.length cap4)).toList).take ((k + 1) * 6) = ecs (T ++ [⟨x.n, .slice ao4 x.l.length cap4, x.l⟩])) := by
        show _ = _
        have hz : (ecs (T ++ [⟨x.n, .slice ao4 x.l.length cap4, x.l⟩])).length = (k + 1) * 6 := by rw [ecs_len, List.length_append, HTL.out]; rfl
        have h6 : (ecs T).length = k * 6 := by rw [ecs_len, HTL.out]
        have hLL := HL.out
        apply List.ext_getElem?
        intro j
        rw [List.getElem?_take, putL_get, ecs_snoc]
        by_cases h1 : j < (k + 1) * 6
        · rw [if_pos h1]
          by_cases h2 : k * 6 ≤ j
          · rw [if_pos ⟨h2, by show j < k * 6 + 6; omega, by omega⟩, List.getElem?_append_right (by omega), h6]
          · rw [if_neg (by omega), List.getElem?_append_left (by omega), ← HE.out, List.getElem?_take, if_pos (by omega)]
        · rw [if_neg h1]
          rw [ecs_snoc] at hz
          exact (List.getElem?_eq_none (by omega)).symm
      have HAL2 : Hid (Alk (l.take (k + 1)) (T ++ [⟨x.n, .slice ao4 x.l.length cap4, x.l⟩])) := by
        show _ = _
        rw [List.take_add_one, HX.out, List.map_append, List.map_append, HAL.out]
        rfl
      have HTL2 : Hid ((T ++ [(⟨x.n, .slice ao4 x.l.length cap4, x.l⟩ : Ev)]).length = k + 1) := by show _ = _; rw [List.length_append, HTL.out]; rfl
      clear ho4 hB4 HO b4 q c0 c1 c2 c3 c4 c5 od4 hI4 hrow4 HTL HAL HE HL HI
      go_wp2_with (refine wpList_store_mid rfl 34 _ _ rfl w.heap.size (k * 6) (ec x.n (.slice ao4 x.l.length cap4)) rfl rfl th (sizeE x.n _) (oneE x.n (one_slice _ _ _)) ?_; rw [HW5.out])
      go_roundw
      case rel => exact ⟨k + 1, _, _, by omega, by go_num, HTL2, HAL2, HP, HO5.out, HI5, HB5.out⟩
      case measure => simp [intOf]; omega
    · go_wp2
      go_ret
      have hkl : k = l.length := by omega
      subst hkl
      have h1 := HE.out
      have h2 := HL.out
      have h3 := HAL.out
      rw [List.take_of_length_le (by omega)] at h1 h3
      subst h1
      refine ⟨_, T, rfl, ⟨?_, HI.out⟩, h3, hbr⟩
      rw [HTL.out]
      exact On.of hownr

end Go.Proofs.YtlhmemnaiobgkaaGreatDoor.Fe
