/- Texts in one: Ver8, Mod6, Ent1. -/
import Derived.Test.YtbopliahafkecaaGreatDoorPk9
import Derived.Test.YtbopliahafkecaaGreatDoorPk8
import Derived.Test.YtbopliahafkecaaGreatDoorPk2
import Derived.Laws.Rows
import Derived.Laws.CopyOwn
/- Chapter 3, the specification's side: what is bumped. -/
namespace Go.Proofs.YtbopliahafkecaaGreatDoor.Ver
set_option linter.unusedVariables false
set_option linter.unusedSimpArgs false
open Go.RowKit Go.Proofs.YtbopliahafkecaaGreatDoor.Mem Go.Proofs.YtbopliahafkecaaGreatDoor.Laws Go.Proofs.YtbopliahafkecaaGreatDoor.Bytes Go.Proofs.YtbopliahafkecaaGreatDoor.Sha

/-- what is bumped -/
def bump (a b c : Int) (p : ByteArray) (part : Int) : Int × Int × Int × ByteArray :=
  if okV a b c p = true then
    (if part = 0 then (if okV (a + 1) 0 0 ⟨#[]⟩ = true then (a + 1, 0, 0, ⟨#[]⟩) else (a, b, c, p))
     else if part = 1 then (if okV a (b + 1) 0 ⟨#[]⟩ = true then (a, b + 1, 0, ⟨#[]⟩) else (a, b, c, p))
     else if part = 2 then (if okV a b (c + 1) ⟨#[]⟩ = true then (a, b, c + 1, ⟨#[]⟩) else (a, b, c, p))
     else (a, b, c, p))
  else (a, b, c, p)
def verQ (q : Int × Int × Int × ByteArray) : Value := ver q.1 q.2.1 q.2.2.1 q.2.2.2

/-- a version's cells -/
def vc (a b c : Int) (p : ByteArray) : Array Value := #[.int .i64 a, .int .i64 b, .int .i64 c, .string p]
/-- block g holds a version -/
def Vr (w : World) (g : Nat) (a b c : Int) (p : ByteArray) : Prop := w.heap[g]? = some (.cells (vc a b c p) 45 (0, 0))
theorem Vr.lt {w : World} {g : Nat} {a b c : Int} {p : ByteArray} (h : Vr w g a b c p) : g < w.heap.size := (Array.getElem?_eq_some_iff.1 h).1
theorem Vr.same {w w' : World} {g : Nat} {a b c : Int} {p : ByteArray} (h : Vr w g a b c p) (hb : Below w.heap.size w w') : Vr w' g a b c p := (hb.block g h.lt).trans h
theorem Vr.cells {w : World} {g : Nat} {a b c : Int} {p : ByteArray} (h : Vr w g a b c p) : w.cell? ⟨g, 0, none⟩ = some (.int .i64 a) ∧ w.cell? ⟨g, 1, none⟩ = some (.int .i64 b) ∧ w.cell? ⟨g, 2, none⟩ = some (.int .i64 c) ∧ w.cell? ⟨g, 3, none⟩ = some (.string p) :=
  ⟨(cell_of_row w g 0 _ _ _ h).trans rfl, (cell_of_row w g 1 _ _ _ h).trans rfl, (cell_of_row w g 2 _ _ _ h).trans rfl, (cell_of_row w g 3 _ _ _ h).trans rfl⟩
theorem sizeV (a b c : Int) (p : ByteArray) : (Tryz.prog.info? 45).map (·.size) = some (vc a b c p).size := by
  show _ = some 4
  kernel_rfl
theorem oneV (a b c : Int) (p : ByteArray) : (vc a b c p).all (·.oneCell') = true := by unfold vc; simp [Value.oneCell']
theorem Vr.row {w : World} {g : Nat} {a b c : Int} {p : ByteArray} (h : Vr w g a b c p) (a' b' c' : Int) (p' : ByteArray) : Vr (w.setRow g (vc a' b' c' p')) g a' b' c' p' := setRow_heap w g _ _ _ _ h

end Go.Proofs.YtbopliahafkecaaGreatDoor.Ver

/- Chapter 4, the specification's side: what fits a path. -/
namespace Go.Proofs.YtbopliahafkecaaGreatDoor.Mod
open Go.RowKit Go.Proofs.YtbopliahafkecaaGreatDoor.Mem Go.Proofs.YtbopliahafkecaaGreatDoor.Laws Go.Proofs.YtbopliahafkecaaGreatDoor.Bytes Go.Proofs.YtbopliahafkecaaGreatDoor.Sha Go.Proofs.YtbopliahafkecaaGreatDoor.Ver
set_option linter.unusedVariables false
set_option linter.unusedSimpArgs false

set_option maxRecDepth 1000000 in
set_option maxHeartbeats 1000000 in
theorem fits_spec (w : World) (s : ByteArray) (a b c : Int) (p : ByteArray) (hs : s.size ≤ 1000000000000) (hp : p.size ≤ 1000000000000) :
    Calls Tryz.prog 61 #[.string s, ver a b c p] w fun e w' => e = .returned (.bool (fits4 s a b c p)) ∧ Below w.heap.size w w' := by
  have q1 := major_spec (w.alloc (.cells #[.int .i64 a, .int .i64 b, .int .i64 c, .string p] 45)) s hs
  have q2 : ∀ W, _ := fun W => ok_spec W a b c p hp
  have HM : Hid (fits4 s a b c p = (decide (0 < major4 s) && okV a b c p && (decide (a = major4 s) || (decide (major4 s = 1) && decide (a = 0))))) := rfl
  obtain ⟨m, hm⟩ : ∃ m, major4 s = m := ⟨_, rfl⟩
  obtain ⟨ok, hok⟩ : ∃ m, okV a b c p = m := ⟨_, rfl⟩
  rw [hm] at q1
  simp only [hok] at q2
  rw [hm, hok] at HM
  clear hm hok
  have HR0 : Hid (Vr (w.alloc (.cells #[.int .i64 a, .int .i64 b, .int .i64 c, .string p] 45)) w.heap.size a b c p) := heap_alloc_new w _
  have HB : Hid (Below w.heap.size w (w.alloc (.cells #[.int .i64 a, .int .i64 b, .int .i64 c, .string p] 45))) := (Below.refl _ _).alloc (Nat.le_refl _) _
  unfold ver at q2 ⊢
  go_enter Tryz.func61, Tryz.ntmps61
  go_wp2_with fail
  refine q1.mono ?_
  rintro e w1 ⟨rfl, b1⟩
  have r1 := Vr.same HR0.out b1
  have hb1 : Below w.heap.size w w1 := HB.out.trans (b1.mono (by simp))
  obtain ⟨k0, k1, k2, k3⟩ := Vr.cells r1
  clear HR0 HB q1 b1
  by_cases h0 : 0 < m
  · have d0 : decide (m > 0) = true := by simpa using h0
    have d0' : decide (0 < m) = true := by simpa using h0
    go_wp2_with fail
    refine (q2 _).mono ?_
    rintro e w2 ⟨rfl, b2⟩
    have r2 := Vr.same r1 b2
    have hb2 : Below w.heap.size w w2 := hb1.trans (b2.mono hb1.size)
    clear k0 k1 k2 k3 r1
    obtain ⟨k0, k1, k2, k3⟩ := Vr.cells r2
    cases ok
    · have HN : Hid (fits4 s a b c p = false) := by show _ = _; rw [HM.out]; simp
      clear HM
      go_wp2
      go_ret
      exact ⟨by rw [HN.out]; rfl, hb2⟩
    · by_cases h1 : a = m
      · have d1 : (a == m) = true := by simpa using h1
        have HN : Hid (fits4 s a b c p = true) := by show _ = _; rw [HM.out]; simp [h0, h1]
        clear HM
        go_wp2
        go_ret
        exact ⟨by rw [HN.out]; rfl, hb2⟩
      · have d1 : (a == m) = false := by simpa using h1
        by_cases h2 : m = 1
        · have d2 : (m == 1) = true := by simpa using h2
          have HN : Hid (fits4 s a b c p = (a == 1 || a == 0)) := by
            show _ = _
            have e1 : (a == 1) = false := by rw [← h2]; exact d1
            rw [HM.out, e1, decide_eq_false h1, decide_eq_true h2, d0']
            by_cases h3 : a = 0 <;> simp [h3]
          clear HM
          go_wp2
          go_ret
          exact ⟨by rw [HN.out]; rfl, hb2⟩
        · have d2 : (m == 1) = false := by simpa using h2
          have HN : Hid (fits4 s a b c p = false) := by show _ = _; rw [HM.out]; simp [h1, h2]
          clear HM
          go_wp2
          go_ret
          exact ⟨by rw [HN.out]; rfl, hb2⟩
  · have d0 : decide (m > 0) = false := by simpa using h0
    have d0' : decide (0 < m) = false := by simpa using h0
    have HN : Hid (fits4 s a b c p = false) := by show _ = _; rw [HM.out, d0']; rfl
    clear HM
    go_wp2
    go_ret
    exact ⟨by rw [HN.out]; rfl, hb1⟩

end Go.Proofs.YtbopliahafkecaaGreatDoor.Mod

/- Chapter 5: needs and entries as cells; plain facts. -/
namespace Go.Proofs.YtbopliahafkecaaGreatDoor.Ent
open Go.RowKit Go.Proofs.YtbopliahafkecaaGreatDoor.Mem Go.Proofs.YtbopliahafkecaaGreatDoor.Laws Go.Proofs.YtbopliahafkecaaGreatDoor.Ver
set_option linter.unusedVariables false
set_option linter.unusedSimpArgs false

/-- a need: a path and a version -/
structure Nd where
  path : ByteArray
  a : Int
  b : Int
  c : Int
  pre : ByteArray
/-- its cells; it as a value -/
def Nd.cs (n : Nd) : List Value := [.string n.path, .int .i64 n.a, .int .i64 n.b, .int .i64 n.c, .string n.pre]
def Nd.val (n : Nd) : Value := .agg #[.string n.path, .int .i64 n.a, .int .i64 n.b, .int .i64 n.c, .string n.pre]
def nds : List Nd → List Value
  | [] => []
  | n :: r => .string n.path :: .int .i64 n.a :: .int .i64 n.b :: .int .i64 n.c :: .string n.pre :: nds r
theorem nds_len : ∀ l : List Nd, (nds l).length = l.length * 5 := by
  intro l
  induction l with
  | nil => rfl
  | cons q r ih => simp [nds, ih]; omega
theorem nds_app (l m : List Nd) : nds (l ++ m) = nds l ++ nds m := by
  induction l with
  | nil => rfl
  | cons q r ih => simp [nds, ih]
theorem nds_snoc (l : List Nd) (n : Nd) : nds (l ++ [n]) = nds l ++ n.cs := by rw [nds_app]; rfl
theorem nds_one : ∀ l : List Nd, ∀ u ∈ nds l, u.oneCell' = true := by
  intro l
  induction l with
  | nil => intro u hu; cases hu
  | cons q r ih =>
    intro u hu
    simp only [nds, List.mem_cons] at hu
    rcases hu with rfl | rfl | rfl | rfl | rfl | hu
    · rfl
    · rfl
    · rfl
    · rfl
    · rfl
    · exact ih u hu
theorem nds_get : ∀ (l : List Nd) (k : Nat) (q : Nd), l[k]? = some q →
    (nds l)[k * 5]? = some (.string q.path) ∧ (nds l)[k * 5 + 1]? = some (.int .i64 q.a) ∧ (nds l)[k * 5 + 2]? = some (.int .i64 q.b) ∧ (nds l)[k * 5 + 3]? = some (.int .i64 q.c) ∧ (nds l)[k * 5 + 4]? = some (.string q.pre) := by
  intro l
  induction l with
  | nil => intro k q h; simp at h
  | cons x r ih =>
    intro k q h
    cases k with
    | zero => simp at h; subst h; exact ⟨rfl, rfl, rfl, rfl, rfl⟩
    | succ k =>
      have := ih k q (by simpa using h)
      have e : (k + 1) * 5 = k * 5 + 5 := by omega
      rw [e]
      exact this

/-- v is a slice of the needs l; v owns them -/
def Sd (w : World) (v : Value) (l : List Nd) : Prop := Sn 5 w v l.length (nds l)
def Od (w : World) (lo hi : Nat) (v : Value) (l : List Nd) : Prop := On 5 w lo hi 47 v l.length (nds l)
theorem Od.sd {w : World} {lo hi : Nat} {v : Value} {l : List Nd} (h : Od w lo hi v l) : Sd w v l := On.sn h
theorem Sd.later {w w' : World} {v : Value} {l : List Nd} (h : Sd w v l) (hb : Below w.heap.size w w') : Sd w' v l := Sn.later h hb
/-- where a need of a slice lies -/
theorem Sd.at {w : World} {v : Value} {l : List Nd} (h : Sd w v l) {k : Nat} {q : Nd} (hq : l[k]? = some q) : ∃ b off cap, v = .slice (some ⟨b, off, none⟩) l.length cap ∧ l.length ≤ cap ∧
    w.cell? ⟨b, off + k * 5, none⟩ = some (.string q.path) ∧ w.cell? ⟨b, off + k * 5 + 1, none⟩ = some (.int .i64 q.a) ∧ w.cell? ⟨b, off + k * 5 + 2, none⟩ = some (.int .i64 q.b) ∧ w.cell? ⟨b, off + k * 5 + 3, none⟩ = some (.int .i64 q.c) ∧ w.cell? ⟨b, off + k * 5 + 4, none⟩ = some (.string q.pre) := by
  have hk : k < l.length := (List.getElem?_eq_some_iff.1 hq).1
  obtain ⟨b, off, cap, rfl, hc, hr⟩ := Sn.at h hk
  obtain ⟨h0, h1, h2, h3, h4⟩ := nds_get l k q hq
  refine ⟨b, off, cap, rfl, hc, ?_, ?_, ?_, ?_, ?_⟩
  · have := hr 0 (by omega); rw [Nat.add_zero, h0] at this; exact this
  · have := hr 1 (by omega); rw [h1, ← Nat.add_assoc] at this; exact this
  · have := hr 2 (by omega); rw [h2, ← Nat.add_assoc] at this; exact this
  · have := hr 3 (by omega); rw [h3, ← Nat.add_assoc] at this; exact this
  · have := hr 4 (by omega); rw [h4, ← Nat.add_assoc] at this; exact this

/-- is a need right; do needs rise -/
def Nd.ok (n : Nd) : Bool := fits4 n.path n.a n.b n.c n.pre
def rise : List Nd → Bool
  | [] => true
  | [n] => n.ok
  | n :: m :: r => n.ok && ltT n.path m.path && rise (m :: r)
def needs5 (l : List Nd) : Bool := decide (l.length ≤ 20) && rise l

theorem rise_take {l : List Nd} {k : Nat} (h : rise (l.take (k + 1)) = true) : rise (l.take k) = true := by
  induction l generalizing k with
  | nil => simp [rise]
  | cons n r ih =>
    cases k with
    | zero => simp [rise]
    | succ k =>
      cases r with
      | nil => simpa using h
      | cons m r =>
        cases k with
        | zero =>
          simp [rise] at h ⊢
          exact h.1.1
        | succ k =>
          simp only [List.take_succ_cons] at h ih ⊢
          have h' : (n.ok && ltT n.path m.path && rise (m :: r.take (k + 1))) = true := h
          show (n.ok && ltT n.path m.path && rise (m :: r.take k)) = true
          rw [Bool.and_eq_true] at h' ⊢
          exact ⟨h'.1, ih (k := k + 1) (by simpa using h'.2)⟩
/-- one need more: it must be right, and behind the last -/
theorem rise_snoc : ∀ (l : List Nd) (q : Nd), rise (l ++ [q]) = (rise l && q.ok && (match l.getLast? with | none => true | some p => ltT p.path q.path)) := by
  intro l
  induction l with
  | nil => intro q; simp [rise]
  | cons n r ih =>
    intro q
    cases r with
    | nil =>
      show (n.ok && ltT n.path q.path && q.ok) = (n.ok && q.ok && ltT n.path q.path)
      cases n.ok <;> cases ltT n.path q.path <;> cases q.ok <;> rfl
    | cons m r =>
      have h := ih q
      show (n.ok && ltT n.path m.path && rise (m :: (r ++ [q]))) = _
      rw [show m :: (r ++ [q]) = m :: r ++ [q] from rfl, h]
      rw [List.getLast?_cons_cons]
      show _ = (n.ok && ltT n.path m.path && rise (m :: r) && q.ok && _)
      simp only [Bool.and_assoc]
theorem rise_bad {l : List Nd} {k : Nat} (h : rise (l.take k) = false) : rise l = false := by
  have e : ∀ j, rise (l.take (k + j)) = false := by
    intro j
    induction j with
    | zero => exact h
    | succ j ih =>
      rw [Bool.eq_false_iff] at ih ⊢
      exact fun hh => ih (rise_take hh)
  have := e l.length
  rwa [List.take_of_length_le (by omega)] at this

end Go.Proofs.YtbopliahafkecaaGreatDoor.Ent
