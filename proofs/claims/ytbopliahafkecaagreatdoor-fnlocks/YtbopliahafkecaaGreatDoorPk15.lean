/- Texts in one: Ent9. -/
import Derived.Test.YtbopliahafkecaaGreatDoorPk13
import Derived.Test.YtbopliahafkecaaGreatDoorPk14
import Derived.Lib.ConvBytes
import Derived.Lib.AtoiErrMem
/- Chapter 5, the specification's side: an entry read of its text. -/
namespace Go.Proofs.YtbopliahafkecaaGreatDoor.Ent
open Go.RowKit Go.Proofs.YtbopliahafkecaaGreatDoor.Mem Go.Proofs.YtbopliahafkecaaGreatDoor.Laws Go.Proofs.YtbopliahafkecaaGreatDoor.Bytes Go.Proofs.YtbopliahafkecaaGreatDoor.Sha Go.Proofs.YtbopliahafkecaaGreatDoor.Ver Go.Proofs.YtbopliahafkecaaGreatDoor.Mod
set_option linter.unusedVariables false
set_option linter.unusedSimpArgs false

/-- the needs whose names these are -/
def needsOf : List ByteArray → Option (List Nd)
  | [] => some []
  | t :: r => if (pname t).2 = true then (needsOf r).map fun l => (pname t).1 :: l else none
def no5 : Nd × List Nd × Bool := (nil5, [], false)
def get5e (n : Nd) (l : List Nd) : Nd × List Nd × Bool := if entry5 n l = true then (n, l, true) else no5
def get5t (n : Nd) (ts : List ByteArray) : Nd × List Nd × Bool := match needsOf ts with
  | some l => get5e n l
  | none => no5
/-- the entry whose text s is -/
def get5 (s : ByteArray) : Nd × List Nd × Bool :=
  if (Plain.getText (sb s) 0).2.2 = true ∧ (Plain.getTexts (sb s) (Plain.getText (sb s) 0).2.1).2.2 = true ∧ (pname (Plain.getText (sb s) 0).1).2 = true ∧ (Plain.getTexts (sb s) (Plain.getText (sb s) 0).2.1).2.1 = (s.size : Int)
  then get5t (pname (Plain.getText (sb s) 0).1).1 (Plain.getTexts (sb s) (Plain.getText (sb s) 0).2.1).1 else no5

theorem needsOf_app : ∀ (a : List ByteArray) (t : ByteArray), needsOf (a ++ [t]) = match needsOf a with
    | some l => if (pname t).2 = true then some (l ++ [(pname t).1]) else none
    | none => none := by
  intro a
  induction a with
  | nil => intro t; simp [needsOf]
  | cons x r ih =>
    intro t
    simp only [List.cons_append, needsOf, ih]
    split
    · cases needsOf r with
      | none => simp
      | some l => by_cases h : (pname t).2 = true <;> simp [h]
    · rfl
theorem needsOf_len : ∀ (a : List ByteArray) (l : List Nd), needsOf a = some l → l.length = a.length := by
  intro a
  induction a with
  | nil => intro l h; simp [needsOf] at h; subst h; rfl
  | cons x r ih =>
    intro l h
    simp only [needsOf] at h
    split at h
    · cases hn : needsOf r with
      | none => rw [hn] at h; simp at h
      | some q => rw [hn] at h; simp at h; subst h; simp [ih q hn]
    · cases h
theorem needsOf_bad : ∀ (a b : List ByteArray), needsOf a = none → needsOf (a ++ b) = none := by
  intro a
  induction a with
  | nil => intro b h; simp [needsOf] at h
  | cons x r ih =>
    intro b h
    simp only [List.cons_append, needsOf] at h ⊢
    split at h
    · rename_i hx
      rw [if_pos hx]
      have : needsOf r = none := by simpa using h
      rw [ih b this]
      rfl
    · rename_i hx
      rw [if_neg hx]

theorem strBytes (w : World) (s : ByteArray) (hs : s.size ≤ 1000000000000) : ∃ (cap : Nat) (W : World), (convert 9 22 (.string s)).run Tryz.prog w = .ok (.slice (some ⟨w.heap.size, 0, none⟩) s.size cap) W ∧ Sl W (.slice (some ⟨w.heap.size, 0, none⟩) s.size cap) (bs (sb s)) ∧ Below w.heap.size w W := by
  refine ⟨_, _, Lib.run_convert_string_bytes w 9 22 5 s Tryz.underlying9 Tryz.underlying22 Tryz.underlying5, ⟨_, _, by rw [bs_len, sb_len], by rw [bs_len, sb_len]; exact grownCap_ge w s.size 0 5, fun h => (by cases h), fun _ => ⟨w.heap.size, 0, rfl, fun j hj => ?_⟩⟩, Lib.bytesWorld_below w 5 s⟩
  rw [bs_len, sb_len] at hj
  rw [Nat.zero_add, Lib.bytesWorld_cell w 5 s j hj, bs_get]
  have hj2 : j < s.data.toList.length := by simpa using hj
  have hj3 : j < s.data.size := hj
  simp [sb, List.getD]
  rw [Array.getElem?_eq_getElem hj3]
  simp

theorem getText_small (xs : List Int) (at_ : Int) : 0 ≤ (Plain.getText xs at_).2.1 ∧ (Plain.getText xs at_).2.1 ≤ xs.length ∧ (Plain.getText xs at_).1.size ≤ xs.length := by
  obtain ⟨s, p, ok, h⟩ : ∃ s p ok, Plain.getText xs at_ = (s, p, ok) := ⟨_, _, _, rfl⟩
  cases ok
  · unfold Plain.getText at h ⊢
    split at h
    · simp at h
    · rename_i hc
      rw [if_neg hc]
      exact ⟨Int.le_refl _, (by show (0 : Int) ≤ _; omega), Nat.zero_le _⟩
  · have := Plain.getText_bd h
    rw [h]
    simp only
    exact ⟨by omega, by omega, by omega⟩
theorem rd_small (xs : List Int) : ∀ (n : Nat) (p q : Int) (l : List ByteArray), Plain.rd xs n p = some (l, q) → ∀ t ∈ l, t.size ≤ xs.length := by
  intro n
  induction n with
  | zero => intro p q l h t ht; simp [Plain.rd] at h; rw [h.1] at ht; cases ht
  | succ n ih =>
    intro p q l h t ht
    rw [Plain.rd] at h
    split at h
    · rw [Option.map_eq_some_iff] at h
      obtain ⟨⟨l2, q2⟩, h1, h2⟩ := h
      simp only [Prod.mk.injEq] at h2
      rw [← h2.1] at ht
      rcases List.mem_cons.1 ht with rfl | ht
      · exact (getText_small xs p).2.2
      · exact ih _ _ _ h1 t ht
    · simp at h
theorem getTexts_small (xs : List Int) (at_ : Int) : ∀ t ∈ (Plain.getTexts xs at_).1, t.size ≤ xs.length := by
  unfold Plain.getTexts
  split
  · split
    · rename_i l q hr
      exact rd_small xs _ _ _ _ hr
    · intro t ht; cases ht
  · intro t ht; cases ht
theorem pname_size (s : ByteArray) : (pname s).1.path.size ≤ s.size ∧ (pname s).1.pre.size ≤ s.size := by
  have hT := splitT_size 64 s
  unfold pname
  split
  · rename_i x y hxy
    rw [hxy] at hT
    unfold pn
    split
    · exact ⟨hT x (by simp), Nat.le_trans (parseV_size y) (hT y (by simp))⟩
    · exact ⟨Nat.zero_le _, Nat.zero_le _⟩
  · exact ⟨Nat.zero_le _, Nat.zero_le _⟩
theorem infoN5 : (Tryz.prog.info? 47).map (fun i => (i.zero, i.size, i.bytes)) = some (some (.agg #[.string ⟨#[]⟩, .int .i64 0, .int .i64 0, .int .i64 0, .string ⟨#[]⟩]), 5, 56) := by kernel_rfl

/-- how an answer of GetEntry is told -/
def Got (s : ByteArray) (w : World) (e : Ending) (w' : World) : Prop :=
  ∃ v', e = .returned (.tuple #[.agg #[.string (get5 s).1.path, .int .i64 (get5 s).1.a, .int .i64 (get5 s).1.b, .int .i64 (get5 s).1.c, .string (get5 s).1.pre, v'], .bool (get5 s).2.2]) ∧ Od w' w.heap.size w'.heap.size v' (get5 s).2.1 ∧ Below w.heap.size w w'

theorem got_no {s : ByteArray} {w w' : World} (h : get5 s = no5) (hB : Below w.heap.size w w') : Got s w (.returned (.tuple #[.agg (ec nil5 (.slice none 0 0)), .bool false])) w' := by
  refine ⟨.slice none 0 0, ?_, ?_, hB⟩
  · rw [h]; rfl
  · rw [h]; exact On.nil 5 w' _ _ _

end Go.Proofs.YtbopliahafkecaaGreatDoor.Ent
