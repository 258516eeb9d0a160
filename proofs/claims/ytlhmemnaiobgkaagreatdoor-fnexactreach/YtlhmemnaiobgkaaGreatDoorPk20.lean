/- Texts in one: Se1, Se2, Se5, Se3, EntI, Se4. -/
import Derived.Test.YtlhmemnaiobgkaaGreatDoorPk13
import Derived.Test.YtlhmemnaiobgkaaGreatDoorPk14
import Derived.Test.YtlhmemnaiobgkaaGreatDoorPk18
import Derived.Test.YtlhmemnaiobgkaaGreatDoorPk6
import Derived.Test.YtlhmemnaiobgkaaGreatDoorPk19
import Derived.Test.YtlhmemnaiobgkaaGreatDoorPk9
/- Chapter 16: what is reached, what is selected of it; plain facts. -/
namespace Go.Proofs.YtlhmemnaiobgkaaGreatDoor.Se
open Go.RowKit Go.Proofs.YtlhmemnaiobgkaaGreatDoor.Mem Go.Proofs.YtlhmemnaiobgkaaGreatDoor.Laws Go.Proofs.YtlhmemnaiobgkaaGreatDoor.Ver Go.Proofs.YtlhmemnaiobgkaaGreatDoor.Ent Go.Proofs.YtlhmemnaiobgkaaGreatDoor.Fe
set_option linter.unusedVariables false
set_option linter.unusedSimpArgs false

theorem eqT_same (a b : ByteArray) : eqT a b = true ↔ a = b := by
  unfold eqT
  rw [beq_iff_eq, ByteArray.toList_eq, ByteArray.toList_eq]
  constructor
  · intro h; apply ByteArray.ext; apply Array.ext'; exact h
  · rintro rfl; rfl
theorem isN_iff (q n : Nd) : isN q n = true ↔ n = q := by
  unfold isN
  rw [Bool.and_eq_true, sameV_iff]
  have e : (n.path.toList == q.path.toList) = true ↔ n.path = q.path := eqT_same _ _
  rw [e]
  constructor
  · rintro ⟨h1, h2, h3, h4, h5⟩
    cases n; cases q; simp_all
  · rintro rfl; simp
/-- is this need in the row -/
def has16 (l : List Nd) (n : Nd) : Bool := l.any fun x => isN n x
theorem has16_iff (l : List Nd) (n : Nd) : has16 l n = true ↔ n ∈ l := by
  unfold has16
  rw [List.any_eq_true]
  constructor
  · rintro ⟨x, hx, h⟩; rw [isN_iff] at h; subst h; exact hx
  · intro h; exact ⟨n, h, (isN_iff _ _).2 rfl⟩
/-- an entry's needs come behind the row -/
def put16 (row : List Nd) (n : Nd) : List Nd := if has16 row n = true then row else row ++ [n]
def add16 : List Nd → List Nd → Option (List Nd)
  | row, [] => some row
  | row, n :: r => if 60 < (put16 row n).length then none else add16 (put16 row n) r
theorem put16_nodup {row : List Nd} {n : Nd} (h : row.Nodup) : (put16 row n).Nodup := by
  unfold put16
  split
  · exact h
  · rename_i hn
    rw [List.nodup_append]
    refine ⟨h, by simp, fun a ha b hb he => ?_⟩
    simp at hb
    subst hb; subst he
    exact hn ((has16_iff _ _).2 ha)
theorem put16_mem {row : List Nd} {n x : Nd} : x ∈ put16 row n ↔ x ∈ row ∨ x = n := by
  unfold put16
  split
  · rename_i h
    have := (has16_iff _ _).1 h
    constructor
    · exact .inl
    · rintro (h | rfl)
      · exact h
      · exact this
  · simp
theorem put16_app (row : List Nd) (n : Nd) : ∃ t, put16 row n = row ++ t := by
  unfold put16
  split
  · exact ⟨[], by simp⟩
  · exact ⟨[n], rfl⟩
theorem add16_some : ∀ (ns row out : List Nd), row.Nodup → row.length ≤ 60 → add16 row ns = some out →
    (∃ t, out = row ++ t) ∧ out.Nodup ∧ out.length ≤ 60 ∧ (∀ x, x ∈ out ↔ x ∈ row ∨ x ∈ ns) := by
  intro ns
  induction ns with
  | nil =>
    intro row out h1 h2 h
    simp only [add16, Option.some.injEq] at h
    subst h
    exact ⟨⟨[], by simp⟩, h1, h2, fun x => by simp⟩
  | cons n r ih =>
    intro row out h1 h2 h
    rw [add16] at h
    split at h
    · cases h
    · rename_i hl
      obtain ⟨⟨t, ht⟩, k2, k3, k4⟩ := ih _ _ (put16_nodup h1) (by omega) h
      obtain ⟨u, hu⟩ := put16_app row n
      refine ⟨⟨u ++ t, by rw [ht, hu]; simp⟩, k2, k3, fun x => ?_⟩
      rw [k4, put16_mem]
      simp only [List.mem_cons]
      constructor
      · rintro ((h | h) | h)
        · exact .inl h
        · exact .inr (.inl h)
        · exact .inr (.inr h)
      · rintro (h | h | h)
        · exact .inl (.inl h)
        · exact .inl (.inr h)
        · exact .inr h
theorem nodup_len : ∀ (l C : List Nd), l.Nodup → (∀ x ∈ l, x ∈ C) → l.length ≤ C.length := by
  intro l
  haveI : DecidableEq Nd := fun a b => Classical.propDecidable _
  induction l with
  | nil => intro C _ _; simp
  | cons x r ih =>
    intro C hn hs
    have hx : x ∈ C := hs x (by simp)
    obtain ⟨h1, h2⟩ := List.nodup_cons.1 hn
    have := ih (C.erase x) h2 (fun y hy => (List.mem_erase_of_ne (fun h => h1 (by rw [← h]; exact hy))).2 (hs y (by simp [hy])))
    rw [List.length_erase_of_mem hx] at this
    have : 0 < C.length := List.length_pos_of_mem hx
    simp
    omega
theorem add16_fits {C : List Nd} (hC : C.length ≤ 60) : ∀ (ns row : List Nd), row.Nodup → (∀ x ∈ row, x ∈ C) → (∀ x ∈ ns, x ∈ C) → ∃ out, add16 row ns = some out := by
  intro ns
  induction ns with
  | nil => intro row _ _ _; exact ⟨row, rfl⟩
  | cons n r ih =>
    intro row h1 h2 h3
    have hs : ∀ x ∈ put16 row n, x ∈ C := by
      intro x hx
      rcases put16_mem.1 hx with h | rfl
      · exact h2 x h
      · exact h3 x (by simp)
    have := nodup_len _ _ (put16_nodup (n := n) h1) hs
    obtain ⟨out, ho⟩ := ih (put16 row n) (put16_nodup h1) hs (fun x hx => h3 x (by simp [hx]))
    exact ⟨out, by rw [add16, if_neg (by omega)]; exact ho⟩
/-- the row, one behind the other -/
def walk16 (l : List Ev) : Nat → List Nd → Nat → List Nd × Int
  | 0, row, _ => (row, 0)
  | f + 1, row, i => match row[i]? with
    | none => (row, 0)
    | some q => match find15 q l with
      | none => ([], 2)
      | some e => if entry5 e.n e.l = true then (match add16 row e.l with
        | none => ([], 3)
        | some out => walk16 l f out (i + 1)) else ([], 2)
def reach16 (l : List Ev) (roots : List Nd) : List Nd × Int := if needs5 roots = true then walk16 l 61 roots 0 else ([], 1)
/-- there is an entry of this name, and all that it needs is in the row -/
def Hs (l : List Ev) (row : List Nd) (q : Nd) : Prop := ∃ e, find15 q l = some e ∧ entry5 e.n e.l = true ∧ ∀ n ∈ e.l, n ∈ row
theorem walk16_code (l : List Ev) : ∀ (f : Nat) (row : List Nd) (i : Nat), (walk16 l f row i).2 = 0 ∨ (walk16 l f row i).1 = [] ∧ ((walk16 l f row i).2 = 2 ∨ (walk16 l f row i).2 = 3) := by
  intro f
  induction f with
  | zero => intro row i; exact .inl rfl
  | succ f ih =>
    intro row i
    rw [walk16]
    split
    · exact .inl rfl
    · split
      · exact .inr ⟨rfl, .inl rfl⟩
      · split
        · split
          · exact .inr ⟨rfl, .inr rfl⟩
          · exact ih _ _
        · exact .inr ⟨rfl, .inl rfl⟩
theorem reach16_code (l : List Ev) (roots : List Nd) : (reach16 l roots).2 = 0 ∨ (reach16 l roots).1 = [] ∧ (reach16 l roots).2 ≠ 0 := by
  unfold reach16
  split
  · rcases walk16_code l 61 roots 0 with h | ⟨h1, h2 | h2⟩
    · exact .inl h
    · exact .inr ⟨h1, by rw [h2]; decide⟩
    · exact .inr ⟨h1, by rw [h2]; decide⟩
  · exact .inr ⟨rfl, by decide⟩
theorem mem_take_succ {α : Type} {l : List α} {i : Nat} {x q : α} (hq : l[i]? = some q) (h : x ∈ l.take (i + 1)) : x ∈ l.take i ∨ x = q := by
  rw [take_snoc15 hq] at h
  rcases List.mem_append.1 h with h | h
  · exact .inl h
  · simp at h; exact .inr h
theorem walk16_good (l : List Ev) : ∀ (f : Nat) (row : List Nd) (i : Nat), row.Nodup → row.length ≤ 60 → i ≤ row.length → 61 ≤ i + f → (∀ q ∈ row.take i, Hs l row q) → (walk16 l f row i).2 = 0 →
    (∃ t, (walk16 l f row i).1 = row ++ t) ∧ (walk16 l f row i).1.Nodup ∧ (walk16 l f row i).1.length ≤ 60 ∧ (∀ q ∈ (walk16 l f row i).1, Hs l (walk16 l f row i).1 q) ∧
    (∀ C : List Nd, (∀ q ∈ row, q ∈ C) → (∀ q ∈ C, ∀ e, find15 q l = some e → ∀ n ∈ e.l, n ∈ C) → ∀ q ∈ (walk16 l f row i).1, q ∈ C) := by
  intro f
  induction f with
  | zero => intro row i _ h1 h2 h3; omega
  | succ f ih =>
    intro row i hn hl hi hf hd hc
    rw [walk16] at hc ⊢
    cases hq : row[i]? with
    | none =>
      have he : row.length ≤ i := by rw [List.getElem?_eq_none_iff] at hq; exact hq
      refine ⟨⟨[], by simp⟩, hn, hl, ?_, fun C h _ q hq => h q hq⟩
      rw [List.take_of_length_le he] at hd
      exact hd
    | some q =>
      simp only [hq] at hc ⊢
      cases hfi : find15 q l with
      | none => simp only [hfi] at hc; cases hc
      | some e =>
        simp only [hfi] at hc ⊢
        by_cases hok : entry5 e.n e.l = true
        · rw [if_pos hok] at hc ⊢
          cases ha : add16 row e.l with
          | none => simp only [ha] at hc; cases hc
          | some out =>
            simp only [ha] at hc ⊢
            obtain ⟨⟨t, ht⟩, k2, k3, k4⟩ := add16_some _ _ _ hn hl ha
            have hil : i < row.length := (List.getElem?_eq_some_iff.1 hq).1
            have hd2 : ∀ x ∈ out.take (i + 1), Hs l out x := by
              intro x hx
              have hx2 : x ∈ row.take (i + 1) := by
                rw [ht, List.take_append_of_le_length (by omega)] at hx; exact hx
              rcases mem_take_succ hq hx2 with h | rfl
              · obtain ⟨e2, a1, a2, a3⟩ := hd x h
                exact ⟨e2, a1, a2, fun n hn => (k4 n).2 (.inl (a3 n hn))⟩
              · exact ⟨e, hfi, hok, fun n hn => (k4 n).2 (.inr hn)⟩
            have hlen : out.length = row.length + t.length := by rw [ht]; simp
            obtain ⟨⟨u, hu⟩, m2, m3, m4, m5⟩ := ih out (i + 1) k2 k3 (by omega) (by omega) hd2 hc
            refine ⟨⟨t ++ u, by rw [hu, ht]; simp⟩, m2, m3, m4, fun C h1 h2 => m5 C ?_ h2⟩
            intro x hx
            rcases (k4 x).1 hx with h | h
            · exact h1 x h
            · exact h2 q (h1 q (List.mem_of_getElem? hq)) e hfi x h
        · rw [if_neg hok] at hc; cases hc
/-- a row inside one that has all comes to an end without a fault -/
theorem walk16_ok (l : List Ev) {C : List Nd} (hC : C.length ≤ 60) (hH : ∀ q ∈ C, Hs l C q) : ∀ (f : Nat) (row : List Nd) (i : Nat), row.Nodup → row.length ≤ 60 → (∀ q ∈ row, q ∈ C) → (walk16 l f row i).2 = 0 := by
  intro f
  induction f with
  | zero => intro row i _ _ _; rfl
  | succ f ih =>
    intro row i hn hl hs
    rw [walk16]
    cases hq : row[i]? with
    | none => rfl
    | some q =>
      obtain ⟨e, h1, h2, h3⟩ := hH q (hs q (List.mem_of_getElem? hq))
      simp only [h1, if_pos h2]
      obtain ⟨out, ho⟩ := add16_fits hC e.l row hn hs h3
      simp only [ho]
      obtain ⟨_, k2, k3, k4⟩ := add16_some _ _ _ hn hl ho
      refine ih out (i + 1) k2 k3 fun x hx => ?_
      rcases (k4 x).1 hx with h | h
      · exact hs x h
      · exact h3 x h

end Go.Proofs.YtlhmemnaiobgkaaGreatDoor.Se

/- Chapter 16: of each path the latest; plain facts. -/
namespace Go.Proofs.YtlhmemnaiobgkaaGreatDoor.Se
open Go.RowKit Go.Proofs.YtlhmemnaiobgkaaGreatDoor.Mem Go.Proofs.YtlhmemnaiobgkaaGreatDoor.Laws Go.Proofs.YtlhmemnaiobgkaaGreatDoor.Ver Go.Proofs.YtlhmemnaiobgkaaGreatDoor.Ent Go.Proofs.YtlhmemnaiobgkaaGreatDoor.Fe
set_option linter.unusedVariables false
set_option linter.unusedSimpArgs false

theorem bl_irr : ∀ a : List UInt8, Op.bytesLess a a = false := by
  intro a
  induction a with
  | nil => rfl
  | cons x r ih => rw [Op.bytesLess, ih]; simp
theorem bl_tr : ∀ a b c : List UInt8, Op.bytesLess a b = true → Op.bytesLess b c = true → Op.bytesLess a c = true := by
  intro a
  induction a with
  | nil =>
    intro b c h1 h2
    cases c with
    | nil => cases b <;> simp [Op.bytesLess] at h2
    | cons z c => rfl
  | cons x a ih =>
    intro b c h1 h2
    cases b with
    | nil => simp [Op.bytesLess] at h1
    | cons y b =>
      cases c with
      | nil => simp [Op.bytesLess] at h2
      | cons z c =>
        simp only [Op.bytesLess, Bool.or_eq_true, Bool.and_eq_true, decide_eq_true_eq, beq_iff_eq] at h1 h2 ⊢
        rcases h1 with h1 | ⟨rfl, h1⟩
        · rcases h2 with h2 | ⟨rfl, h2⟩
          · exact .inl (UInt8.lt_trans h1 h2)
          · exact .inl h1
        · rcases h2 with h2 | ⟨rfl, h2⟩
          · exact .inl h2
          · exact .inr ⟨rfl, ih _ _ h1 h2⟩
theorem bl_tot : ∀ a b : List UInt8, Op.bytesLess a b = true ∨ a = b ∨ Op.bytesLess b a = true := by
  intro a
  induction a with
  | nil =>
    intro b
    cases b with
    | nil => exact .inr (.inl rfl)
    | cons y b => exact .inl rfl
  | cons x a ih =>
    intro b
    cases b with
    | nil => exact .inr (.inr rfl)
    | cons y b =>
      simp only [Op.bytesLess, Bool.or_eq_true, Bool.and_eq_true, decide_eq_true_eq, beq_iff_eq, List.cons.injEq]
      by_cases h1 : x < y
      · exact .inl (.inl h1)
      · by_cases h2 : y < x
        · exact .inr (.inr (.inl h2))
        · have h3 : x = y := by
            apply UInt8.le_antisymm
            · exact UInt8.not_lt.1 h2
            · exact UInt8.not_lt.1 h1
          subst h3
          rcases ih b with h | h | h
          · exact .inl (.inr ⟨rfl, h⟩)
          · exact .inr (.inl ⟨rfl, h⟩)
          · exact .inr (.inr (.inr ⟨rfl, h⟩))
theorem lt_irr (a : ByteArray) : ltT a a = false := bl_irr _
theorem lt_tr {a b c : ByteArray} (h1 : ltT a b = true) (h2 : ltT b c = true) : ltT a c = true := bl_tr _ _ _ h1 h2
theorem lt_tot (a b : ByteArray) : ltT a b = true ∨ a = b ∨ ltT b a = true := by
  rcases bl_tot a.toList b.toList with h | h | h
  · exact .inl h
  · exact .inr (.inl ((eqT_same a b).1 (by unfold eqT; rw [beq_iff_eq]; exact h)))
  · exact .inr (.inr h)
theorem lt_ne {a b : ByteArray} (h : ltT a b = true) : eqT a b = false := by
  cases he : eqT a b with
  | false => rfl
  | true => rw [(eqT_same a b).1 he, lt_irr] at h; cases h
theorem eqT_no {a b : ByteArray} : eqT a b = false ↔ a ≠ b := by
  rw [← Bool.not_eq_true, not_congr (eqT_same a b)]

/-- needs whose paths rise -/
def Up (l : List Nd) : Prop := l.Pairwise fun x y => ltT x.path y.path = true
theorem Up.one {l : List Nd} (h : Up l) {x y : Nd} (hx : x ∈ l) (hy : y ∈ l) (he : x.path = y.path) : x = y := by
  induction l with
  | nil => cases hx
  | cons z r ih =>
    obtain ⟨h1, h2⟩ := List.pairwise_cons.1 h
    rcases List.mem_cons.1 hx with rfl | hx
    · rcases List.mem_cons.1 hy with rfl | hy
      · rfl
      · have := h1 y hy; rw [he, lt_irr] at this; cases this
    · rcases List.mem_cons.1 hy with rfl | hy
      · have := h1 x (by assumption); rw [he, lt_irr] at this; cases this
      · exact ih h2 (by assumption) (by assumption)
theorem Up.nodup {l : List Nd} (h : Up l) : l.Nodup := by
  refine List.Pairwise.imp ?_ h
  intro a b hab he
  subst he
  rw [lt_irr] at hab; cases hab
theorem rise_up : ∀ l : List Nd, rise l = true → Up l := by
  intro l
  induction l with
  | nil => intro _; exact List.Pairwise.nil
  | cons x r ih =>
    intro h
    cases r with
    | nil => exact List.pairwise_singleton _ _
    | cons y r =>
      have h' : (x.ok && ltT x.path y.path && rise (y :: r)) = true := h
      rw [Bool.and_eq_true, Bool.and_eq_true] at h'
      obtain ⟨⟨h1, h2⟩, h3⟩ := h'
      have hu := ih h3
      refine List.pairwise_cons.2 ⟨fun z hz => ?_, hu⟩
      rcases List.mem_cons.1 hz with rfl | hz
      · exact h2
      · exact lt_tr h2 ((List.pairwise_cons.1 hu).1 z hz)
theorem needs_up {l : List Nd} (h : needs5 l = true) : Up l ∧ l.length ≤ 20 := by
  unfold needs5 at h
  rw [Bool.and_eq_true, decide_eq_true_eq] at h
  exact ⟨rise_up l h.2, h.1⟩
/-- needs that rise and have the same members are the same -/
theorem Up.same : ∀ {l m : List Nd}, Up l → Up m → (∀ x, x ∈ l ↔ x ∈ m) → l = m := by
  intro l
  induction l with
  | nil =>
    intro m _ _ h
    cases m with
    | nil => rfl
    | cons y m => have := (h y).2 (by simp); cases this
  | cons x l ih =>
    intro m h1 h2 h
    cases m with
    | nil => have := (h x).1 (by simp); cases this
    | cons y m =>
      obtain ⟨a1, a2⟩ := List.pairwise_cons.1 h1
      obtain ⟨b1, b2⟩ := List.pairwise_cons.1 h2
      have hxy : x = y := by
        rcases List.mem_cons.1 ((h x).1 (by simp)) with e | hx
        · exact e
        · rcases List.mem_cons.1 ((h y).2 (by simp)) with e | hy
          · exact e.symm
          · have := lt_tr (b1 x hx) (a1 y hy)
            rw [lt_irr] at this; cases this
      subst hxy
      have hn1 : x ∉ l := fun hx => by have := a1 x hx; rw [lt_irr] at this; cases this
      have hn2 : x ∉ m := fun hx => by have := b1 x hx; rw [lt_irr] at this; cases this
      congr 1
      refine ih a2 b2 fun z => ?_
      constructor
      · intro hz
        rcases List.mem_cons.1 ((h z).1 (by simp [hz])) with rfl | hm
        · exact absurd hz hn1
        · exact hm
      · intro hz
        rcases List.mem_cons.1 ((h z).2 (by simp [hz])) with rfl | hm
        · exact absurd hz hn2
        · exact hm

theorem ins_form (l : List Nd) (n : Nd) : insN l n = l.takeWhile (lts n) ++ [n] ++ (l.dropWhile (lts n)).filter (nes n) := by
  have hf := fold_false n l [] (fun x hx h => lt_ne h)
  have htd : l.takeWhile (lts n) ++ l.dropWhile (lts n) = l := List.takeWhile_append_dropWhile
  by_cases hd : l.dropWhile (lts n) = []
  · rw [if_pos hd] at hf
    rw [hd, List.append_nil] at htd
    unfold insN
    rw [hf, hd, htd]
    simp
  · rw [if_neg hd] at hf
    unfold insN
    rw [hf]
    simp
theorem ins_iff (l : List Nd) (n x : Nd) : x ∈ insN l n ↔ x = n ∨ x ∈ l ∧ x.path ≠ n.path := by
  have htd : l.takeWhile (lts n) ++ l.dropWhile (lts n) = l := List.takeWhile_append_dropWhile
  rw [ins_form]
  constructor
  · intro h
    rcases List.mem_append.1 h with h | h
    · rcases List.mem_append.1 h with h | h
      · obtain ⟨h1, h2⟩ := take_lt (lts n) l x h
        exact .inr ⟨h2, eqT_no.1 (lt_ne h1)⟩
      · simp at h; exact .inl h
    · obtain ⟨h1, h2⟩ := List.mem_filter.1 h
      refine .inr ⟨(List.dropWhile_sublist (lts n)).subset h1, eqT_no.1 ?_⟩
      unfold nes at h2
      simpa using h2
  · rintro (rfl | ⟨h1, h2⟩)
    · simp
    · rw [← htd] at h1
      rcases List.mem_append.1 h1 with h | h
      · simp [h]
      · refine List.mem_append_right _ (List.mem_filter.2 ⟨h, ?_⟩)
        unfold nes
        rw [eqT_no.2 h2]
        rfl
theorem Up.ins {l : List Nd} (hl : Up l) (n : Nd) : Up (insN l n) := by
  have htd : l.takeWhile (lts n) ++ l.dropWhile (lts n) = l := List.takeWhile_append_dropWhile
  have hgt : ∀ y ∈ (l.dropWhile (lts n)).filter (nes n), ltT n.path y.path = true := by
    intro y hy
    obtain ⟨hy1, hy2⟩ := List.mem_filter.1 hy
    have hye : y.path ≠ n.path := by unfold nes at hy2; exact eqT_no.1 (by simpa using hy2)
    cases hd : l.dropWhile (lts n) with
    | nil => rw [hd] at hy1; cases hy1
    | cons z r =>
      obtain ⟨hz, a, ha⟩ := mem_drop_head _ _ _ _ hd
      have hz' : ltT z.path n.path = false := hz
      rw [hd] at hy1
      have hzn : n.path = z.path ∨ ltT n.path z.path = true := by
        rcases lt_tot z.path n.path with h | h | h
        · rw [hz'] at h; cases h
        · exact .inl h.symm
        · exact .inr h
      rcases List.mem_cons.1 hy1 with rfl | hr
      · rcases hzn with h | h
        · exact absurd h.symm hye
        · exact h
      · have hp : Up l := hl
        unfold Up at hp
        rw [ha, List.pairwise_append] at hp
        have h2 := (List.pairwise_cons.1 hp.2.1).1 y hr
        rcases hzn with h | h
        · rw [h]; exact h2
        · exact lt_tr h h2
  rw [ins_form]
  unfold Up
  rw [List.pairwise_append, List.pairwise_append]
  refine ⟨⟨List.Pairwise.sublist (List.takeWhile_sublist _) hl, by simp, fun a ha b hb => by simp at hb; subst hb; exact (take_lt (lts b) l a ha).1⟩, List.Pairwise.sublist (List.filter_sublist.trans (List.dropWhile_sublist _)) hl, ?_⟩
  intro a ha b hb
  rcases List.mem_append.1 ha with ha | ha
  · exact lt_tr (take_lt (lts n) l a ha).1 (hgt b hb)
  · simp at ha; subst ha; exact hgt b hb

/-- one version less than the other -/
def lv (x y : Nd) : Bool := lessV x.a x.b x.c x.pre y.a y.b y.c y.pre
/-- x is of q's path, and no less -/
def cov1 (q x : Nd) : Bool := eqT x.path q.path && !lv x q
theorem cov1_iff {q x : Nd} : cov1 q x = true ↔ x.path = q.path ∧ lv x q = false := by
  unfold cov1
  rw [Bool.and_eq_true, eqT_same]
  simp
def covers16 (list needs : List Nd) : Bool := needs.all fun n => list.any (cov1 n)
theorem covers_iff {list needs : List Nd} : covers16 list needs = true ↔ ∀ n ∈ needs, ∃ x ∈ list, x.path = n.path ∧ lv x n = false := by
  unfold covers16
  rw [List.all_eq_true]
  constructor
  · intro h n hn
    obtain ⟨x, hx, hc⟩ := List.any_eq_true.1 (h n hn)
    exact ⟨x, hx, cov1_iff.1 hc⟩
  · intro h n hn
    obtain ⟨x, hx, hc⟩ := h n hn
    exact List.any_eq_true.2 ⟨x, hx, cov1_iff.2 hc⟩
def closed16 (l : List Ev) (list : List Nd) : Bool := list.all fun q => match find15 q l with | none => false | some e => covers16 list e.l
def max16 (l : List Nd) (n : Nd) : List Nd := if l.any (cov1 n) = true then l else insN l n
def sel16 (row : List Nd) : List Nd := row.foldl max16 []
def select16 (l : List Ev) (roots : List Nd) : List Nd × Int := (sel16 (reach16 l roots).1, (reach16 l roots).2)

/-- the order of the versions of these needs -/
structure Lin (D : Nd → Prop) : Prop where
  irr : ∀ {x}, D x → lv x x = false
  tr : ∀ {x y z}, D x → D y → D z → lv x y = true → lv y z = true → lv x z = true
  tot : ∀ {x y}, D x → D y → x.path = y.path → lv x y = false → lv y x = false → x = y
theorem Lin.as {D : Nd → Prop} (h : Lin D) {x y : Nd} (hx : D x) (hy : D y) (h1 : lv x y = true) : lv y x = false := by
  cases h2 : lv y x with
  | false => rfl
  | true => have := h.tr hx hy hx h1 h2; rw [h.irr hx] at this; cases this
/-- no less than what is no less -/
theorem Lin.nl {D : Nd → Prop} (h : Lin D) {x y z : Nd} (hx : D x) (hy : D y) (hz : D z) (hp : x.path = y.path) (h1 : lv x y = false) (h2 : lv y z = false) : lv x z = false := by
  cases h3 : lv x z with
  | false => rfl
  | true =>
    cases h4 : lv y x with
    | true => have := h.tr hy hx hz h4 h3; rw [h2] at this; cases this
    | false => have := h.tot hx hy hp h1 h4; subst this; rw [h3] at h2; cases h2
/-- what was selected of a row -/
structure Sel (row out : List Nd) : Prop where
  up : Up out
  sub : ∀ x ∈ out, x ∈ row
  cov : ∀ q ∈ row, ∃ x ∈ out, x.path = q.path ∧ lv x q = false
theorem max_sel {D : Nd → Prop} (h : Lin D) {row out : List Nd} {n : Nd} (hs : Sel row out) (hD : ∀ x ∈ row, D x) (hn : D n) : Sel (row ++ [n]) (max16 out n) := by
  unfold max16
  cases ha : out.any (cov1 n) with
  | true =>
    rw [if_pos rfl]
    obtain ⟨x, hx, hc⟩ := List.any_eq_true.1 ha
    refine ⟨hs.up, fun x hx => by simp [hs.sub x hx], fun q hq => ?_⟩
    rcases List.mem_append.1 hq with hq | hq
    · exact hs.cov q hq
    · simp at hq; subst hq; exact ⟨x, hx, cov1_iff.1 hc⟩
  | false =>
    rw [if_neg (by simp)]
    refine ⟨hs.up.ins n, fun x hx => ?_, fun q hq => ?_⟩
    · rcases (ins_iff out n x).1 hx with rfl | ⟨h1, _⟩
      · simp
      · simp [hs.sub x h1]
    · rcases List.mem_append.1 hq with hq | hq
      · obtain ⟨x, hx, h1, h2⟩ := hs.cov q hq
        by_cases hp : x.path = n.path
        · refine ⟨n, (ins_iff _ _ _).2 (.inl rfl), by rw [← hp]; exact h1, ?_⟩
          have hxn : lv x n = true := by
            have h3 := List.any_eq_false.1 ha x hx
            cases h4 : lv x n with
            | true => rfl
            | false => exact absurd (cov1_iff.2 ⟨hp, h4⟩) h3
          have dx := hD x (hs.sub x hx)
          have dq := hD q hq
          exact h.nl hn dx dq hp.symm (h.as dx hn hxn) h2
        · exact ⟨x, (ins_iff _ _ _).2 (.inr ⟨hx, hp⟩), h1, h2⟩
      · simp at hq; subst hq
        exact ⟨q, (ins_iff _ _ _).2 (.inl rfl), rfl, h.irr hn⟩
theorem sel_fold {D : Nd → Prop} (h : Lin D) : ∀ (r row out : List Nd), Sel row out → (∀ x ∈ row ++ r, D x) → Sel (row ++ r) (r.foldl max16 out) := by
  intro r
  induction r with
  | nil => intro row out hs _; simpa using hs
  | cons n r ih =>
    intro row out hs hD
    have := ih (row ++ [n]) (max16 out n) (max_sel h hs (fun x hx => hD x (by simp [hx])) (hD n (by simp))) (fun x hx => hD x (by simpa using hx))
    rw [List.foldl_cons]
    simpa using this
theorem sel_sel {D : Nd → Prop} (h : Lin D) (row : List Nd) (hD : ∀ x ∈ row, D x) : Sel row (sel16 row) := by
  have h0 : Sel [] [] := ⟨List.Pairwise.nil, fun x hx => (List.not_mem_nil hx).elim, fun q hq => (List.not_mem_nil hq).elim⟩
  have := sel_fold h row [] [] h0 (by simpa using hD)
  rw [List.nil_append] at this
  exact this
theorem Sel.iff {D : Nd → Prop} (h : Lin D) {row out : List Nd} (hs : Sel row out) (hD : ∀ x ∈ row, D x) (x : Nd) : x ∈ out ↔ x ∈ row ∧ ∀ q ∈ row, x.path = q.path → lv x q = false := by
  constructor
  · intro hx
    refine ⟨hs.sub x hx, fun q hq hp => ?_⟩
    obtain ⟨y, hy, h1, h2⟩ := hs.cov q hq
    rw [hs.up.one hx hy (by rw [hp, h1])]
    exact h2
  · rintro ⟨hx, hm⟩
    obtain ⟨y, hy, h1, h2⟩ := hs.cov x hx
    have hyr := hs.sub y hy
    rw [← h.tot (hD y hyr) (hD x hx) h1 h2 (hm y hyr h1.symm)]
    exact hy
/-- a row between what was selected and the row that it was selected of: the same is selected -/
theorem sel_again {D : Nd → Prop} (h : Lin D) {row row2 out out2 : List Nd} (hs : Sel row out) (hs2 : Sel row2 out2) (hD : ∀ x ∈ row, D x) (h1 : ∀ x ∈ out, x ∈ row2) (h2 : ∀ x ∈ row2, x ∈ row) : out2 = out := by
  have hD2 : ∀ x ∈ row2, D x := fun x hx => hD x (h2 x hx)
  refine hs2.up.same hs.up fun x => ?_
  rw [hs2.iff h hD2, hs.iff h hD]
  constructor
  · rintro ⟨hx, hm⟩
    refine ⟨h2 x hx, fun q hq hp => ?_⟩
    obtain ⟨y, hy, h3, h4⟩ := hs.cov q hq
    have hyx : x.path = y.path := by rw [hp, h3]
    exact h.nl (hD2 x hx) (hD y (hs.sub y hy)) (hD q hq) hyx (hm y (h1 y hy) hyx) h4
  · rintro ⟨hx, hm⟩
    exact ⟨h1 x ((hs.iff h hD x).2 ⟨hx, hm⟩), fun q hq hp => hm q (h2 q hq) hp⟩

end Go.Proofs.YtlhmemnaiobgkaaGreatDoor.Se

/- Chapter 16, the specification's side: a need in order, of one path the later. -/
namespace Go.Proofs.YtlhmemnaiobgkaaGreatDoor.Se
open Go.RowKit Go.Proofs.YtlhmemnaiobgkaaGreatDoor.Mem Go.Proofs.YtlhmemnaiobgkaaGreatDoor.Laws Go.Proofs.YtlhmemnaiobgkaaGreatDoor.Ver Go.Proofs.YtlhmemnaiobgkaaGreatDoor.Ent Go.Proofs.YtlhmemnaiobgkaaGreatDoor.Fe
set_option linter.unusedVariables false
set_option linter.unusedSimpArgs false

theorem max16_hit {l : List Nd} {q x : Nd} {k : Nat} (h : l[k]? = some x) (he : cov1 q x = true) : max16 l q = l := by
  unfold max16
  rw [if_pos (List.any_eq_true.2 ⟨x, List.mem_of_getElem? h, he⟩)]
theorem max16_none {l : List Nd} {q : Nd} (h : ∀ x ∈ l, cov1 q x = false) : max16 l q = insN l q := by
  unfold max16
  rw [if_neg]
  intro ha
  obtain ⟨x, hx, hc⟩ := List.any_eq_true.1 ha
  rw [h x hx] at hc
  cases hc

set_option maxRecDepth 1000000 in
set_option maxHeartbeats 4000000 in
theorem max_spec (w : World) (v : Value) (l : List Nd) (q : Nd) (h : Sd w v l) (hl : l.length ≤ 1000) (hz : ∀ x ∈ l, x.pre.size ≤ 1000000000000) (hq : q.pre.size ≤ 1000000000000) :
    Calls Tryz.prog 52 #[v, .agg #[.string q.path, .int .i64 q.a, .int .i64 q.b, .int .i64 q.c, .string q.pre]] w fun e w' => ∃ v', e = .returned v' ∧ (v' = v ∧ max16 l q = l ∨ Od w' w.heap.size w'.heap.size v' (max16 l q)) ∧ Below w.heap.size w w' := by
  have HS : Hid (Sd w v l) := h
  obtain ⟨_, ao, cap, rfl, hcap, _, _⟩ := h
  have B0 : Hid (Below w.heap.size w w) := Below.refl _ _
  obtain ⟨W1, HW1, b1, y1, hS1, r_q1⟩ := Ke.l1 w #[.string q.path, .int .i64 q.a, .int .i64 q.b, .int .i64 q.c, .string q.pre] 38
  have z1 := b1.size
  have B1 := Ke.b B0 b1
  have c_q1 := Ke.c r_q1
  go_enter Tryz.func52, Tryz.ntmps52
  go_wp2_with fail
  rw [HW1.out]
  go_loopw [5] (fun i wr => ∃ k : Nat, k ≤ l.length ∧ i = .int .i64 (k : Int) ∧ Hid (∀ x ∈ l.take k, cov1 q x = false) ∧ Hid (Below w.heap.size w wr) ∧ Hid (wr.heap[w.heap.size]? = some (.cells #[.string q.path, .int .i64 q.a, .int .i64 q.b, .int .i64 q.c, .string q.pre] 38 (0, 0)))) (fun i _ => l.length - (intOf i).toNat)
  case atStart => exact ⟨0, Nat.zero_le _, rfl, (fun x hx => by simp at hx), B1, r_q1⟩
  case round =>
    obtain ⟨k, hk, rfl, HN, B2, r_q2⟩ := hrel
    obtain ⟨W2, hW2⟩ : ∃ X, X = wr := ⟨_, rfl⟩
    subst hW2
    clear r_q1 c_q1
    have c_q2 := Ke.c r_q2
    by_cases hlt : k < l.length
    · have hlt2 : (k : Int) < (l.length : Int) := by omega
      obtain ⟨x, hx⟩ : ∃ x, l[k]? = some x := ⟨l[k], by simp [hlt]⟩
      obtain ⟨b, off, cap9, he, _, m0, m1, m2, m3, m4⟩ := Sd.at (HS.out.later B2.out) hx
      simp only [Value.slice.injEq] at he
      obtain ⟨rfl, _, rfl⟩ := he
      have HX : Hid (l[k]? = some x) := hx
      have hxp := hz x (List.mem_of_getElem? hx)
      clear hx
      obtain ⟨P, hP⟩ : ∃ P, (x.path.toList == q.path.toList) = P := ⟨_, rfl⟩
      obtain ⟨V, hV⟩ : ∃ V, lessV x.a x.b x.c x.pre q.a q.b q.c q.pre = V := ⟨_, rfl⟩
      have HI : Hid (cov1 q x = (P && !V)) := by show cov1 _ _ = _; unfold cov1 eqT lv; rw [hP, hV]
      have q1 : ∀ W, _ := fun W => less_spec W x.a x.b x.c x.pre q.a q.b q.c q.pre hxp hq
      simp only [hV] at q1
      clear hV
      cases P
      · go_wp2_with fail
        refine wp_region_held_drew (S := fun w' => w'.cell? ⟨w.heap.size, 0, none⟩ = some (.string q.path) ∧ w'.cell? ⟨w.heap.size, 1, none⟩ = some (.int .i64 q.a) ∧ w'.cell? ⟨w.heap.size, 2, none⟩ = some (.int .i64 q.b) ∧ w'.cell? ⟨w.heap.size, 3, none⟩ = some (.int .i64 q.c) ∧ w'.cell? ⟨w.heap.size, 4, none⟩ = some (.string q.pre) ∧ w'.cell? ⟨b, off + k * 5, none⟩ = some (.string x.path) ∧ w'.cell? ⟨b, off + k * 5 + 1, none⟩ = some (.int .i64 x.a) ∧ w'.cell? ⟨b, off + k * 5 + 2, none⟩ = some (.int .i64 x.b) ∧ w'.cell? ⟨b, off + k * 5 + 3, none⟩ = some (.int .i64 x.c) ∧ w'.cell? ⟨b, off + k * 5 + 4, none⟩ = some (.string x.pre)) (by kernel_rfl) ⟨(c_q2 0), (c_q2 1), (c_q2 2), (c_q2 3), (c_q2 4), m0, m1, m2, m3, m4⟩ (fun hHeld => ?_)
        refine Ke.y 0 rfl (fun _ _ _ h => h) ?_
        try simp only [Act.put, pu1, pu2, pu3, pu4, pu5, pu6]
        refine Ke.y 1 rfl (fun _ _ _ h => h) ?_
        try simp only [Act.put, pu1, pu2, pu3, pu4, pu5, pu6]
        refine Ke.y 2 rfl (fun _ _ _ h => h) ?_
        try simp only [Act.put, pu1, pu2, pu3, pu4, pu5, pu6]
        refine Ke.y 3 rfl (fun _ _ _ h => h) ?_
        try simp only [Act.put, pu1, pu2, pu3, pu4, pu5, pu6]
        refine Ke.y 4 rfl (fun _ _ _ h => h) ?_
        try simp only [Act.put, pu1, pu2, pu3, pu4, pu5, pu6]
        refine Ke.y 5 rfl (fun _ _ _ h => h) ?_
        try simp only [Act.put, pu1, pu2, pu3, pu4, pu5, pu6]
        refine Ke.y 6 rfl (fun _ _ _ h => h) ?_
        try simp only [Act.put, pu1, pu2, pu3, pu4, pu5, pu6]
        refine Ke.y 7 rfl (fun _ _ _ h => h) ?_
        try simp only [Act.put, pu1, pu2, pu3, pu4, pu5, pu6]
        refine Ke.y 8 rfl (fun _ _ _ h => h) ?_
        try simp only [Act.put, pu1, pu2, pu3, pu4, pu5, pu6]
        refine Ke.x 9 rfl (fun _ _ _ h => h) ?_
        try simp only [Act.put, pu1, pu2, pu3, pu4, pu5, pu6]
        refine Ke.x 10 rfl (fun _ _ _ h => h) ?_
        try simp only [Act.put, pu1, pu2, pu3, pu4, pu5, pu6]
        refine Ke.x 11 rfl (fun _ _ _ h => h) ?_
        try simp only [Act.put, pu1, pu2, pu3, pu4, pu5, pu6]
        refine Ke.x 12 rfl (fun _ _ _ h => h) ?_
        try simp only [Act.put, pu1, pu2, pu3, pu4, pu5, pu6]
        refine Ke.x 13 rfl (fun _ _ _ h => h) ?_
        try simp only [Act.put, pu1, pu2, pu3, pu4, pu5, pu6]
        refine Ke.x 14 rfl (fun _ _ _ h => h) ?_
        try simp only [Act.put, pu1, pu2, pu3, pu4, pu5, pu6]
        refine Ke.x 15 rfl (fun _ _ _ h => h) ?_
        try simp only [Act.put, pu1, pu2, pu3, pu4, pu5, pu6]
        refine Ke.x 16 rfl (fun _ _ _ h => h) ?_
        try simp only [Act.put, pu1, pu2, pu3, pu4, pu5, pu6]
        refine Ke.x 17 rfl (fun _ _ _ h => h) ?_
        try simp only [Act.put, pu1, pu2, pu3, pu4, pu5, pu6]
        refine Ke.y 18 rfl (fun _ _ _ h => h) ?_
        try simp only [Act.put, pu1, pu2, pu3, pu4, pu5, pu6]
        refine wpAnyH_done (by kernel_rfl) ?_ _
        clear hHeld
        obtain ⟨W3, HW3, b3⟩ : ∃ X, Hid (W2.drew = X) ∧ Below W2.heap.size W2 X := ⟨_, rfl, Below.drew (Below.refl _ _)⟩
        rw [HW3.out]
        have z3 := b3.size
        have B3 := Ke.b B2 b3
        have r_q3 := Ke.r r_q2 b3
        have c_q3 := Ke.c r_q3
        clear r_q2 c_q2
        go_wp2
        go_roundw
        case rel => exact ⟨k + 1, by omega, by go_num, fun y hy => by rw [take_snoc15 HX.out] at hy; rcases List.mem_append.1 hy with h9 | h9; exact HN.out y h9; rw [List.mem_singleton.1 h9]; exact HI.out, B3, r_q3⟩
        case measure => simp [intOf]; omega
      · go_wp2_with fail
        refine wp_region_held_drew (S := fun w' => w'.cell? ⟨w.heap.size, 0, none⟩ = some (.string q.path) ∧ w'.cell? ⟨w.heap.size, 1, none⟩ = some (.int .i64 q.a) ∧ w'.cell? ⟨w.heap.size, 2, none⟩ = some (.int .i64 q.b) ∧ w'.cell? ⟨w.heap.size, 3, none⟩ = some (.int .i64 q.c) ∧ w'.cell? ⟨w.heap.size, 4, none⟩ = some (.string q.pre) ∧ w'.cell? ⟨b, off + k * 5, none⟩ = some (.string x.path) ∧ w'.cell? ⟨b, off + k * 5 + 1, none⟩ = some (.int .i64 x.a) ∧ w'.cell? ⟨b, off + k * 5 + 2, none⟩ = some (.int .i64 x.b) ∧ w'.cell? ⟨b, off + k * 5 + 3, none⟩ = some (.int .i64 x.c) ∧ w'.cell? ⟨b, off + k * 5 + 4, none⟩ = some (.string x.pre)) (by kernel_rfl) ⟨(c_q2 0), (c_q2 1), (c_q2 2), (c_q2 3), (c_q2 4), m0, m1, m2, m3, m4⟩ (fun hHeld => ?_)
        obtain ⟨W3, HW3, b3⟩ : ∃ X, Hid (W2.drew = X) ∧ Below W2.heap.size W2 X := ⟨_, rfl, Below.drew (Below.refl _ _)⟩
        have HHW3 := HW3.out
        rw [HHW3] at hHeld ⊢
        clear HHW3
        have z3 := b3.size
        have B3 := Ke.b B2 b3
        have r_q3 := Ke.r r_q2 b3
        have c_q3 := Ke.c r_q3
        clear r_q2 c_q2
        refine Ke.y 0 rfl (fun _ _ _ h => h) ?_
        try simp only [Act.put, pu1, pu2, pu3, pu4, pu5, pu6]
        refine Ke.y 1 rfl (fun _ _ _ h => h) ?_
        try simp only [Act.put, pu1, pu2, pu3, pu4, pu5, pu6]
        refine Ke.y 2 rfl (fun _ _ _ h => h) ?_
        try simp only [Act.put, pu1, pu2, pu3, pu4, pu5, pu6]
        refine Ke.y 3 rfl (fun _ _ _ h => h) ?_
        try simp only [Act.put, pu1, pu2, pu3, pu4, pu5, pu6]
        refine Ke.y 4 rfl (fun _ _ _ h => h) ?_
        try simp only [Act.put, pu1, pu2, pu3, pu4, pu5, pu6]
        refine Ke.y 5 rfl (fun _ _ _ h => h) ?_
        try simp only [Act.put, pu1, pu2, pu3, pu4, pu5, pu6]
        refine Ke.y 6 rfl (fun _ _ _ h => h) ?_
        try simp only [Act.put, pu1, pu2, pu3, pu4, pu5, pu6]
        refine Ke.y 7 rfl (fun _ _ _ h => h) ?_
        try simp only [Act.put, pu1, pu2, pu3, pu4, pu5, pu6]
        refine Ke.y 8 rfl (fun _ _ _ h => h) ?_
        try simp only [Act.put, pu1, pu2, pu3, pu4, pu5, pu6]
        refine Ke.y 9 rfl (fun _ _ _ h => h) ?_
        try simp only [Act.put, pu1, pu2, pu3, pu4, pu5, pu6]
        refine Ke.y 10 rfl (fun _ _ _ h => h) ?_
        try simp only [Act.put, pu1, pu2, pu3, pu4, pu5, pu6]
        refine Ke.y 11 rfl (fun _ _ _ h => h) ?_
        try simp only [Act.put, pu1, pu2, pu3, pu4, pu5, pu6]
        refine Ke.y 12 rfl (fun _ _ _ h => h) ?_
        try simp only [Act.put, pu1, pu2, pu3, pu4, pu5, pu6]
        refine Ke.y 13 rfl (fun _ _ _ h => h) ?_
        try simp only [Act.put, pu1, pu2, pu3, pu4, pu5, pu6]
        refine Ke.y 14 rfl (fun _ _ _ h => h) ?_
        try simp only [Act.put, pu1, pu2, pu3, pu4, pu5, pu6]
        refine Ke.y 15 rfl (fun _ _ _ h => h) ?_
        try simp only [Act.put, pu1, pu2, pu3, pu4, pu5, pu6]
        refine Ke.z 16 rfl (fun K hK => ?_)
        go_simp
        refine (q1 W3).mono ?_
        rintro e W4 ⟨rfl, b4⟩
        refine hK.out _ _ ⟨(keepR (W := W3) hHeld.1 b4), (keepR (W := W3) hHeld.2.1 b4), (keepR (W := W3) hHeld.2.2.1 b4), (keepR (W := W3) hHeld.2.2.2.1 b4), (keepR (W := W3) hHeld.2.2.2.2.1 b4), (keepR (W := W3) hHeld.2.2.2.2.2.1 b4), (keepR (W := W3) hHeld.2.2.2.2.2.2.1 b4), (keepR (W := W3) hHeld.2.2.2.2.2.2.2.1 b4), (keepR (W := W3) hHeld.2.2.2.2.2.2.2.2.1 b4), (keepR (W := W3) hHeld.2.2.2.2.2.2.2.2.2 b4)⟩ (fun hHeld => ?_)
        clear hK K
        try simp only [Act.put, pu1, pu2, pu3, pu4, pu5, pu6]
        have z4 := b4.size
        have B4 := Ke.b B3 b4
        have r_q4 := Ke.r r_q3 b4
        have c_q4 := Ke.c r_q4
        clear r_q3 c_q3
        refine Ke.y 17 rfl (fun _ _ _ h => h) ?_
        try simp only [Act.put, pu1, pu2, pu3, pu4, pu5, pu6]
        refine Ke.y 18 rfl (fun _ _ _ h => h) ?_
        try simp only [Act.put, pu1, pu2, pu3, pu4, pu5, pu6]
        refine wpAnyH_done (by kernel_rfl) ?_ _
        clear hHeld
        cases V
        · go_wp2
          go_ret
          first | exact ⟨_, rfl, .inl ⟨rfl, max16_hit HX.out HI.out⟩, B4.out⟩ | exact ⟨_, by rfl, .inl ⟨by rfl, max16_hit HX.out HI.out⟩, B4.out⟩
        · go_wp2
          go_roundw
          case rel => exact ⟨k + 1, by omega, by go_num, fun y hy => by rw [take_snoc15 HX.out] at hy; rcases List.mem_append.1 hy with h9 | h9; exact HN.out y h9; rw [List.mem_singleton.1 h9]; exact HI.out, B4, r_q4⟩
          case measure => simp [intOf]; omega
    · have hlt2 : ¬ (k : Int) < (l.length : Int) := by omega
      have HE : Hid (k = l.length) := by show _ = _; omega
      have q2 := put_any W2 _ l q (HS.out.later B2.out) hl
      go_wp2_with fail
      refine q2.mono ?_
      rintro e w2 ⟨v2, rfl, o2, b2⟩
      go_wp2
      go_ret
      first | exact ⟨_, rfl, .inr (by rw [max16_none (fun y hy => HN.out y (by rw [HE.out, List.take_length]; exact hy))]; exact On.mono o2 B2.out.size (Nat.le_refl _)), B2.out.trans (b2.mono B2.out.size)⟩ | skip

end Go.Proofs.YtlhmemnaiobgkaaGreatDoor.Se

/- Chapter 16: what the laws say of what is reached and selected; plain facts. -/
namespace Go.Proofs.YtlhmemnaiobgkaaGreatDoor.Se
open Go.RowKit Go.Proofs.YtlhmemnaiobgkaaGreatDoor.Mem Go.Proofs.YtlhmemnaiobgkaaGreatDoor.Laws Go.Proofs.YtlhmemnaiobgkaaGreatDoor.Ver Go.Proofs.YtlhmemnaiobgkaaGreatDoor.Ent Go.Proofs.YtlhmemnaiobgkaaGreatDoor.Fe
set_option linter.unusedVariables false
set_option linter.unusedSimpArgs false

/-- what is reached without a fault -/
structure Rch (l : List Ev) (roots row : List Nd) : Prop where
  app : ∃ t, row = roots ++ t
  nodup : row.Nodup
  len : row.length ≤ 60
  has : ∀ q ∈ row, Hs l row q
  least : ∀ C : List Nd, (∀ q ∈ roots, q ∈ C) → (∀ q ∈ C, ∀ e, find15 q l = some e → ∀ n ∈ e.l, n ∈ C) → ∀ q ∈ row, q ∈ C
theorem reach_form {l : List Ev} {roots : List Nd} (h : (reach16 l roots).2 = 0) : needs5 roots = true ∧ reach16 l roots = walk16 l 61 roots 0 := by
  unfold reach16 at h ⊢
  by_cases hn : needs5 roots = true
  · rw [if_pos hn]; exact ⟨hn, rfl⟩
  · rw [if_neg hn] at h; cases h
theorem reach_rch {l : List Ev} {roots : List Nd} (h : (reach16 l roots).2 = 0) : Rch l roots (reach16 l roots).1 := by
  obtain ⟨hn, he⟩ := reach_form h
  rw [he] at h ⊢
  obtain ⟨hu, hl⟩ := needs_up hn
  obtain ⟨h1, h2, h3, h4, h5⟩ := walk16_good l 61 roots 0 hu.nodup (by omega) (Nat.zero_le _) (by omega) (fun q hq => by simp at hq) h
  exact ⟨h1, h2, h3, h4, h5⟩
theorem Rch.root {l : List Ev} {roots row : List Nd} (h : Rch l roots row) {q : Nd} (hq : q ∈ roots) : q ∈ row := by
  obtain ⟨t, ht⟩ := h.app
  rw [ht]; simp [hq]
/-- what was selected covers all that was reached, and is closed -/
theorem Rch.closed {l : List Ev} {roots row out : List Nd} (h : Rch l roots row) (hs : Sel row out) : closed16 l out = true := by
  unfold closed16
  rw [List.all_eq_true]
  intro q hq
  obtain ⟨e, h1, _, h3⟩ := h.has q (hs.sub q hq)
  simp only [h1]
  exact covers_iff.2 fun n hn => hs.cov n (h3 n hn)
theorem Rch.covers {l : List Ev} {roots row out : List Nd} (h : Rch l roots row) (hs : Sel row out) : covers16 out roots = true :=
  covers_iff.2 fun n hn => hs.cov n (h.root hn)
theorem Sel.covers {row out ns : List Nd} (hs : Sel row out) (hn : ∀ n ∈ ns, n ∈ row) : covers16 out ns = true :=
  covers_iff.2 fun n h => hs.cov n (hn n h)
theorem Sel.some {row out : List Nd} (hs : Sel row out) (h : row ≠ []) : out ≠ [] := by
  cases row with
  | nil => exact absurd rfl h
  | cons q r =>
    obtain ⟨x, hx, _⟩ := hs.cov q (by simp)
    intro he
    rw [he] at hx
    cases hx
/-- what was selected, selected of itself -/
theorem select_again {D : Nd → Prop} (hL : Lin D) {l : List Ev} {roots row : List Nd} (h : Rch l roots row) (hD : ∀ x ∈ row, D x) (hn : needs5 (sel16 row) = true) :
    select16 l (sel16 row) = (sel16 row, 0) := by
  have hs := sel_sel hL row hD
  have hc : (reach16 l (sel16 row)).2 = 0 := by
    unfold reach16
    rw [if_pos hn]
    obtain ⟨hu, hl⟩ := needs_up hn
    exact walk16_ok l h.len h.has 61 _ 0 hu.nodup (by omega) hs.sub
  have h2 := reach_rch hc
  have hsub : ∀ x ∈ (reach16 l (sel16 row)).1, x ∈ row := h2.least row hs.sub (by
    intro q hq e he n hn
    obtain ⟨e2, a1, _, a3⟩ := h.has q hq
    rw [he] at a1
    simp only [Option.some.injEq] at a1
    subst a1
    exact a3 n hn)
  have hs2 := sel_sel hL (reach16 l (sel16 row)).1 (fun x hx => hD x (hsub x hx))
  unfold select16
  rw [hc, sel_again hL hs hs2 hD (fun x hx => h2.root hx) hsub]
/-- texts of a list, all apart, are no more than the list has -/
theorem up_len {l : List Nd} {P : List ByteArray} (h : Up l) (hP : ∀ x ∈ l, x.path ∈ P) : l.length ≤ P.length := by
  induction l generalizing P with
  | nil => simp
  | cons x r ih =>
    obtain ⟨h1, h2⟩ := List.pairwise_cons.1 h
    have hx : x.path ∈ P := hP x (by simp)
    have := ih (P := P.filter fun y => !eqT y x.path) h2 (fun y hy => List.mem_filter.2 ⟨hP y (by simp [hy]), by
      rw [eqT_no.2 (fun he => by have := h1 y hy; rw [he, lt_irr] at this; cases this)]; rfl⟩)
    have hlt : (P.filter fun y => !eqT y x.path).length < P.length := by
      rw [List.length_filter_lt_length_iff_exists]
      exact ⟨x.path, hx, by rw [(eqT_same _ _).2 rfl]; decide⟩
    simp
    omega
theorem up_rise : ∀ l : List Nd, Up l → (∀ x ∈ l, x.ok = true) → rise l = true := by
  intro l
  induction l with
  | nil => intro _ _; rfl
  | cons x r ih =>
    intro h ho
    obtain ⟨h1, h2⟩ := List.pairwise_cons.1 h
    cases r with
    | nil => exact ho x (by simp)
    | cons y r =>
      show (x.ok && ltT x.path y.path && rise (y :: r)) = true
      rw [ho x (by simp), h1 y (by simp), ih h2 (fun z hz => ho z (by simp [hz]))]
      rfl
theorem find_name {q : Nd} {l : List Ev} {e : Ev} (h : find15 q l = some e) : e.n = q ∧ e ∈ l := by
  unfold find15 at h
  exact ⟨(isN_iff _ _).1 (by simpa using List.find?_some h), List.mem_of_find?_eq_some h⟩
/-- what has an entry is right -/
theorem Hs.ok {l : List Ev} {row : List Nd} {q : Nd} (h : Hs l row q) : q.ok = true := by
  obtain ⟨e, h1, h2, _⟩ := h
  rw [← (find_name h1).1]
  unfold entry5 at h2
  simp only [Bool.and_eq_true] at h2
  exact h2.1.1.2
/-- all that is reached has what the roots have and all needs -/
theorem Rch.all {l : List Ev} {roots row : List Nd} (h : Rch l roots row) {D : Nd → Prop} (h1 : ∀ q ∈ roots, D q) (h2 : ∀ e ∈ l, ∀ n ∈ e.l, D n) : ∀ q ∈ row, D q := by
  haveI : DecidablePred D := fun a => Classical.propDecidable _
  intro q hq
  have := h.least (row.filter fun x => decide (D x)) (fun x hx => List.mem_filter.2 ⟨h.root hx, by simpa using h1 x hx⟩) (by
    intro x hx e he n hn
    obtain ⟨hx1, _⟩ := List.mem_filter.1 hx
    obtain ⟨e2, a1, _, a3⟩ := h.has x hx1
    rw [he] at a1
    simp only [Option.some.injEq] at a1
    subst a1
    exact List.mem_filter.2 ⟨a3 n hn, by simpa using h2 e (find_name he).2 n hn⟩) q hq
  simpa using (List.mem_filter.1 this).2

end Go.Proofs.YtlhmemnaiobgkaaGreatDoor.Se

/- Chapter 5, the laws' helpers: lists of needs and entries held against each other, as the language does it. -/
namespace Go.Proofs.YtlhmemnaiobgkaaGreatDoor.Ent
open Go.RowKit Go.Proofs.YtlhmemnaiobgkaaGreatDoor.Mem Go.Proofs.YtlhmemnaiobgkaaGreatDoor.Laws Go.Proofs.YtlhmemnaiobgkaaGreatDoor.Bytes Go.Proofs.YtlhmemnaiobgkaaGreatDoor.Sha Go.Proofs.YtlhmemnaiobgkaaGreatDoor.Ver Go.Proofs.YtlhmemnaiobgkaaGreatDoor.Mod
set_option linter.unusedVariables false
set_option linter.unusedSimpArgs false

theorem fieldsN : Tryz.prog.underlying 38 = some (.struct (Tryz.prog.fieldsOf 38)) := by kernel_rfl
theorem heldN : Tryz.prog.stoodInHeld 38 = false := by kernel_rfl
theorem guardN : Tryz.prog.eqGuardType Tryz.prog.depth 38 = false := by kernel_rfl
theorem eqVs (w : World) (a1 b1 c1 : Int) (p1 : ByteArray) :
    (Op.equalIn 9999 32 (.agg #[.int .i64 a1, .int .i64 b1, .int .i64 c1, .string p1]) (.agg #[.int .i64 a1, .int .i64 b1, .int .i64 c1, .string p1])).run Tryz.prog w = .ok true w := by
  rw [run_equalIn_struct w 9998 _ _ _ fieldsV heldV]
  simp [Program.fieldsOf, Tryz.underlying32, Op.eqFields, go_sem, run_underlying Tryz.underlying3, run_underlying Tryz.underlying9, Tryz.underlying3, Tryz.underlying9, part]
theorem eqNs (w : World) (s : ByteArray) (a1 b1 c1 : Int) (p1 : ByteArray) :
    (Op.equalIn 10000 38 (.agg #[.string s, .int .i64 a1, .int .i64 b1, .int .i64 c1, .string p1]) (.agg #[.string s, .int .i64 a1, .int .i64 b1, .int .i64 c1, .string p1])).run Tryz.prog w = .ok true w := by
  rw [run_equalIn_struct w 9999 _ _ _ fieldsN heldN]
  simp [Program.fieldsOf, Tryz.underlying38, Op.eqFields, go_sem, run_underlying Tryz.underlying9, Tryz.underlying9, Tryz.underlying32, part, eqVs]
theorem neqNs (w : World) (s : ByteArray) (a1 b1 c1 : Int) (p1 : ByteArray) :
    (binOp .neq 38 (.agg #[.string s, .int .i64 a1, .int .i64 b1, .int .i64 c1, .string p1]) (.agg #[.string s, .int .i64 a1, .int .i64 b1, .int .i64 c1, .string p1])).run Tryz.prog w = .ok (.bool false) w := by
  rw [run_neq_struct, eqNs]
  rfl
theorem grdN (w : World) (op : BinOp) (x y : Operand) (xs ys : Array Value) : (eqGuard op 38 x y (.agg xs) (.agg ys)).run Tryz.prog w = .ok () w := run_eqGuard_agg w op 38 x y xs ys guardN

set_option maxRecDepth 1000000 in
set_option maxHeartbeats 4000000 in
theorem same_needs (w : World) (v1 v2 : Value) (l : List Nd) (h1 : Sd w v1 l) (h2 : Sd w v2 l) (hx : l.length ≤ 1000000000000) :
    Calls Tryz.prog 11 #[v1, v2] w fun e w' => e = .returned (.bool true) ∧ Below w.heap.size w w' := by
  have HS1 : Hid (Sd w v1 l) := h1
  have HS2 : Hid (Sd w v2 l) := h2
  obtain ⟨_, ao, cap, rfl, hcap, _, _⟩ := h1
  obtain ⟨_, ao2, cap2, rfl, hcap2, _, _⟩ := h2
  have n1 : ((l.length : Int) != (l.length : Int)) = false := by simp
  go_enter Tryz.func11, Tryz.ntmps11
  go_wp2
  go_loopw [5] (fun i wr => ∃ k : Nat, k ≤ l.length ∧ i = .int .i64 (k : Int) ∧ Below w.heap.size w wr) (fun i _ => l.length - (intOf i).toNat)
  case atStart => exact ⟨0, Nat.zero_le _, rfl, Below.refl _ _⟩
  case round =>
    obtain ⟨k, hk, rfl, hB⟩ := hrel
    by_cases hlt : k < l.length
    · obtain ⟨n, hn⟩ : ∃ n, l[k]? = some n := ⟨l[k], by simp [hlt]⟩
      obtain ⟨b, off, cap', he, _, c0, c1, c2, c3, c4⟩ := Sd.at (HS1.out.later hB) hn
      simp only [Value.slice.injEq] at he
      obtain ⟨rfl, _, rfl⟩ := he
      obtain ⟨b2, off2, cap2', he2, _, e0, e1, e2, e3, e4⟩ := Sd.at (HS2.out.later hB) hn
      simp only [Value.slice.injEq] at he2
      obtain ⟨rfl, _, rfl⟩ := he2
      have hgd := grdN
      have hqn := fun W => neqNs W n.path n.a n.b n.c n.pre
      clear hn n1
      go_wp2_with fail
      refine wp_region_held_drew (S := fun w' => w'.cell? ⟨b, off + k * 5, none⟩ = some (.string n.path) ∧ w'.cell? ⟨b, off + k * 5 + 1, none⟩ = some (.int .i64 n.a) ∧ w'.cell? ⟨b, off + k * 5 + 2, none⟩ = some (.int .i64 n.b) ∧ w'.cell? ⟨b, off + k * 5 + 3, none⟩ = some (.int .i64 n.c) ∧ w'.cell? ⟨b, off + k * 5 + 4, none⟩ = some (.string n.pre) ∧ w'.cell? ⟨b2, off2 + k * 5, none⟩ = some (.string n.path) ∧ w'.cell? ⟨b2, off2 + k * 5 + 1, none⟩ = some (.int .i64 n.a) ∧ w'.cell? ⟨b2, off2 + k * 5 + 2, none⟩ = some (.int .i64 n.b) ∧ w'.cell? ⟨b2, off2 + k * 5 + 3, none⟩ = some (.int .i64 n.c) ∧ w'.cell? ⟨b2, off2 + k * 5 + 4, none⟩ = some (.string n.pre)) (by kernel_rfl) ⟨c0, c1, c2, c3, c4, e0, e1, e2, e3, e4⟩ (fun hHeld => ?_)
      (refine wpAnyH_take (i := 0) (v := ?v0x1) rfl (by kernel_rfl) (by kernel_rfl) (by kernel_rfl) (fun _ _ _ h => h) (Or.inl ⟨by rfl, ?hy0x1⟩) (by assumption) ?rest0x1; case hy0x1 => (intro w hSw; (try dsimp only at hSw); go_split_ands; go_simp; (try with_reducible rfl)))
      try simp only [Act.put, List.setIfInBounds_toArray, List.set_cons_zero, List.set_cons_succ, List.getElem_toArray, List.getElem_cons_zero, List.getElem_cons_succ]
      (refine wpAnyH_take (i := 1) (v := ?v1x2) rfl (by kernel_rfl) (by kernel_rfl) (by kernel_rfl) (fun _ _ _ h => h) (Or.inl ⟨by rfl, ?hy1x2⟩) (by assumption) ?rest1x2; case hy1x2 => (intro w hSw; (try dsimp only at hSw); go_split_ands; go_simp; (try with_reducible rfl)))
      try simp only [Act.put, List.setIfInBounds_toArray, List.set_cons_zero, List.set_cons_succ, List.getElem_toArray, List.getElem_cons_zero, List.getElem_cons_succ]
      (refine wpAnyH_take (i := 2) (v := ?v2x3) rfl (by kernel_rfl) (by kernel_rfl) (by kernel_rfl) (fun _ _ _ h => h) (Or.inl ⟨by rfl, ?hy2x3⟩) (by assumption) ?rest2x3; case hy2x3 => (intro w hSw; (try dsimp only at hSw); go_split_ands; go_simp; (try with_reducible rfl)))
      try simp only [Act.put, List.setIfInBounds_toArray, List.set_cons_zero, List.set_cons_succ, List.getElem_toArray, List.getElem_cons_zero, List.getElem_cons_succ]
      (refine wpAnyH_take (i := 3) (v := ?v3x4) rfl (by kernel_rfl) (by kernel_rfl) (by kernel_rfl) (fun _ _ _ h => h) (Or.inl ⟨by rfl, ?hy3x4⟩) (by assumption) ?rest3x4; case hy3x4 => (intro w hSw; (try dsimp only at hSw); go_split_ands; go_simp; (try with_reducible rfl)))
      try simp only [Act.put, List.setIfInBounds_toArray, List.set_cons_zero, List.set_cons_succ, List.getElem_toArray, List.getElem_cons_zero, List.getElem_cons_succ]
      (refine wpAnyH_take (i := 4) (v := ?v4x5) rfl (by kernel_rfl) (by kernel_rfl) (by kernel_rfl) (fun _ _ _ h => h) (Or.inl ⟨by rfl, ?hy4x5⟩) (by assumption) ?rest4x5; case hy4x5 => (intro w hSw; (try dsimp only at hSw); go_split_ands; go_simp; (try with_reducible rfl)))
      try simp only [Act.put, List.setIfInBounds_toArray, List.set_cons_zero, List.set_cons_succ, List.getElem_toArray, List.getElem_cons_zero, List.getElem_cons_succ]
      (refine wpAnyH_take (i := 5) (v := ?v5x6) rfl (by kernel_rfl) (by kernel_rfl) (by kernel_rfl) (fun _ _ _ h => h) (Or.inl ⟨by rfl, ?hy5x6⟩) (by assumption) ?rest5x6; case hy5x6 => (intro w hSw; (try dsimp only at hSw); go_split_ands; go_simp; (try with_reducible rfl)))
      try simp only [Act.put, List.setIfInBounds_toArray, List.set_cons_zero, List.set_cons_succ, List.getElem_toArray, List.getElem_cons_zero, List.getElem_cons_succ]
      (refine wpAnyH_take (i := 6) (v := ?v6x7) rfl (by kernel_rfl) (by kernel_rfl) (by kernel_rfl) (fun _ _ _ h => h) (Or.inl ⟨by rfl, ?hy6x7⟩) (by assumption) ?rest6x7; case hy6x7 => (intro w hSw; (try dsimp only at hSw); go_split_ands; go_simp; (try with_reducible rfl)))
      try simp only [Act.put, List.setIfInBounds_toArray, List.set_cons_zero, List.set_cons_succ, List.getElem_toArray, List.getElem_cons_zero, List.getElem_cons_succ]
      (refine wpAnyH_take (i := 7) (v := ?v7x8) rfl (by kernel_rfl) (by kernel_rfl) (by kernel_rfl) (fun _ _ _ h => h) (Or.inl ⟨by rfl, ?hy7x8⟩) (by assumption) ?rest7x8; case hy7x8 => (intro w hSw; (try dsimp only at hSw); go_split_ands; go_simp; (try with_reducible rfl)))
      try simp only [Act.put, List.setIfInBounds_toArray, List.set_cons_zero, List.set_cons_succ, List.getElem_toArray, List.getElem_cons_zero, List.getElem_cons_succ]
      (refine wpAnyH_take (i := 8) (v := ?v8x9) rfl (by kernel_rfl) (by kernel_rfl) (by kernel_rfl) (fun _ _ _ h => h) (Or.inl ⟨by rfl, ?hy8x9⟩) (by assumption) ?rest8x9; case hy8x9 => (intro w hSw; (try dsimp only at hSw); go_split_ands; go_simp; (try with_reducible rfl)))
      try simp only [Act.put, List.setIfInBounds_toArray, List.set_cons_zero, List.set_cons_succ, List.getElem_toArray, List.getElem_cons_zero, List.getElem_cons_succ]
      refine wpAnyH_done (by kernel_rfl) ?_ _
      clear hHeld c0 c1 c2 c3 c4 e0 e1 e2 e3 e4
      go_wp2
      go_roundw
      case rel => exact ⟨k + 1, by omega, by go_num, Below.drew hB⟩
      case measure => simp [intOf]; omega
    · go_wp2
      go_ret
      exact ⟨rfl, hB⟩

end Go.Proofs.YtlhmemnaiobgkaaGreatDoor.Ent

/- Chapter 16, the specification's side: is a need in a row. -/
namespace Go.Proofs.YtlhmemnaiobgkaaGreatDoor.Se
open Go.RowKit Go.Proofs.YtlhmemnaiobgkaaGreatDoor.Mem Go.Proofs.YtlhmemnaiobgkaaGreatDoor.Laws Go.Proofs.YtlhmemnaiobgkaaGreatDoor.Ver Go.Proofs.YtlhmemnaiobgkaaGreatDoor.Ent Go.Proofs.YtlhmemnaiobgkaaGreatDoor.Fe
set_option linter.unusedVariables false
set_option linter.unusedSimpArgs false

theorem eqVin (w : World) (a1 b1 c1 : Int) (p1 : ByteArray) (a2 b2 c2 : Int) (p2 : ByteArray) :
    (Op.equalIn 9999 32 (.agg #[.int .i64 a1, .int .i64 b1, .int .i64 c1, .string p1]) (.agg #[.int .i64 a2, .int .i64 b2, .int .i64 c2, .string p2])).run Tryz.prog w = .ok (sameV a1 b1 c1 p1 a2 b2 c2 p2) w := by
  rw [run_equalIn_struct w 9998 _ _ _ fieldsV heldV]
  simp [Program.fieldsOf, Tryz.underlying32, Op.eqFields, go_sem, run_underlying Tryz.underlying3, run_underlying Tryz.underlying9, Tryz.underlying3, Tryz.underlying9, part]
  unfold sameV
  repeat' split
  all_goals simp_all
theorem eqNrun (w : World) (x q : Nd) :
    (Op.equalIn 10000 38 (.agg #[.string x.path, .int .i64 x.a, .int .i64 x.b, .int .i64 x.c, .string x.pre]) (.agg #[.string q.path, .int .i64 q.a, .int .i64 q.b, .int .i64 q.c, .string q.pre])).run Tryz.prog w = .ok (isN q x) w := by
  rw [run_equalIn_struct w 9999 _ _ _ fieldsN heldN]
  simp [Program.fieldsOf, Tryz.underlying38, Op.eqFields, go_sem, run_underlying Tryz.underlying9, Tryz.underlying9, Tryz.underlying32, part, eqVin]
  unfold isN
  cases h1 : (x.path.toList == q.path.toList) <;> cases h2 : sameV x.a x.b x.c x.pre q.a q.b q.c q.pre <;> simp_all
theorem eqlN (w : World) (x q : Nd) :
    (binOp .eql 38 (.agg #[.string x.path, .int .i64 x.a, .int .i64 x.b, .int .i64 x.c, .string x.pre]) (.agg #[.string q.path, .int .i64 q.a, .int .i64 q.b, .int .i64 q.c, .string q.pre])).run Tryz.prog w = .ok (.bool (isN q x)) w := by
  rw [run_eql_struct, eqNrun]
  rfl
theorem has16_hit {l : List Nd} {q x : Nd} {k : Nat} (h : l[k]? = some x) (he : isN q x = true) : has16 l q = true := by
  unfold has16
  rw [List.any_eq_true]
  exact ⟨x, List.mem_of_getElem? h, he⟩
theorem has16_none {l : List Nd} {q : Nd} (h : ∀ x ∈ l, isN q x = false) : has16 l q = false := by
  unfold has16
  rw [List.any_eq_false]
  intro x hx
  rw [h x hx]
  decide

set_option maxRecDepth 1000000 in
set_option maxHeartbeats 4000000 in
theorem has_spec (w : World) (v : Value) (l : List Nd) (q : Nd) (h : Sd w v l) (hl : l.length ≤ 1000000000000) :
    Calls Tryz.prog 47 #[v, .agg #[.string q.path, .int .i64 q.a, .int .i64 q.b, .int .i64 q.c, .string q.pre]] w fun e w' => e = .returned (.bool (has16 l q)) ∧ Below w.heap.size w w' := by
  have HS : Hid (Sd w v l) := h
  obtain ⟨_, ao, cap, rfl, hcap, _, _⟩ := h
  have B0 : Hid (Below w.heap.size w w) := Below.refl _ _
  obtain ⟨W1, HW1, b1, y1, hS1, r_q1⟩ := Ke.l1 w #[.string q.path, .int .i64 q.a, .int .i64 q.b, .int .i64 q.c, .string q.pre] 38
  have z1 := b1.size
  have B1 := Ke.b B0 b1
  have c_q1 := Ke.c r_q1
  go_enter Tryz.func47, Tryz.ntmps47
  go_wp2_with fail
  rw [HW1.out]
  go_loopw [5] (fun i wr => ∃ k : Nat, k ≤ l.length ∧ i = .int .i64 (k : Int) ∧ Hid (∀ x ∈ l.take k, isN q x = false) ∧ Hid (Below w.heap.size w wr) ∧ Hid (wr.heap[w.heap.size]? = some (.cells #[.string q.path, .int .i64 q.a, .int .i64 q.b, .int .i64 q.c, .string q.pre] 38 (0, 0)))) (fun i _ => l.length - (intOf i).toNat)
  case atStart => exact ⟨0, Nat.zero_le _, rfl, (fun x hx => by simp at hx), B1, r_q1⟩
  case round =>
    obtain ⟨k, hk, rfl, HN, B2, r_q2⟩ := hrel
    obtain ⟨W2, hW2⟩ : ∃ X, X = wr := ⟨_, rfl⟩
    subst hW2
    clear r_q1 c_q1
    have c_q2 := Ke.c r_q2
    by_cases hlt : k < l.length
    · have hlt2 : (k : Int) < (l.length : Int) := by omega
      obtain ⟨x, hx⟩ : ∃ x, l[k]? = some x := ⟨l[k], by simp [hlt]⟩
      obtain ⟨b, off, cap9, he, _, m0, m1, m2, m3, m4⟩ := Sd.at (HS.out.later B2.out) hx
      simp only [Value.slice.injEq] at he
      obtain ⟨rfl, _, rfl⟩ := he
      have HX : Hid (l[k]? = some x) := hx
      clear hx
      obtain ⟨V, hV⟩ : ∃ V, isN q x = V := ⟨_, rfl⟩
      have HI : Hid (isN q x = V) := hV
      have ev : ∀ W, _ := fun W => eqlN W x q
      simp only [hV] at ev
      have gv : ∀ W op y z xs ys, _ := fun W op y z xs ys => grdN W op y z xs ys
      clear hV
      go_wp2_with fail
      refine wp_region_held_drew (S := fun w' => w'.cell? ⟨w.heap.size, 0, none⟩ = some (.string q.path) ∧ w'.cell? ⟨w.heap.size, 1, none⟩ = some (.int .i64 q.a) ∧ w'.cell? ⟨w.heap.size, 2, none⟩ = some (.int .i64 q.b) ∧ w'.cell? ⟨w.heap.size, 3, none⟩ = some (.int .i64 q.c) ∧ w'.cell? ⟨w.heap.size, 4, none⟩ = some (.string q.pre) ∧ w'.cell? ⟨b, off + k * 5, none⟩ = some (.string x.path) ∧ w'.cell? ⟨b, off + k * 5 + 1, none⟩ = some (.int .i64 x.a) ∧ w'.cell? ⟨b, off + k * 5 + 2, none⟩ = some (.int .i64 x.b) ∧ w'.cell? ⟨b, off + k * 5 + 3, none⟩ = some (.int .i64 x.c) ∧ w'.cell? ⟨b, off + k * 5 + 4, none⟩ = some (.string x.pre)) (by kernel_rfl) ⟨(c_q2 0), (c_q2 1), (c_q2 2), (c_q2 3), (c_q2 4), m0, m1, m2, m3, m4⟩ (fun hHeld => ?_)
      refine Ke.y 0 rfl (fun _ _ _ h => h) ?_
      try simp only [Act.put, pu1, pu2, pu3, pu4, pu5, pu6]
      refine Ke.y 1 rfl (fun _ _ _ h => h) ?_
      try simp only [Act.put, pu1, pu2, pu3, pu4, pu5, pu6]
      refine Ke.y 2 rfl (fun _ _ _ h => h) ?_
      try simp only [Act.put, pu1, pu2, pu3, pu4, pu5, pu6]
      refine Ke.y 3 rfl (fun _ _ _ h => h) ?_
      try simp only [Act.put, pu1, pu2, pu3, pu4, pu5, pu6]
      refine Ke.y 4 rfl (fun _ _ _ h => h) ?_
      try simp only [Act.put, pu1, pu2, pu3, pu4, pu5, pu6]
      refine Ke.y 5 rfl (fun _ _ _ h => h) ?_
      try simp only [Act.put, pu1, pu2, pu3, pu4, pu5, pu6]
      refine wpAnyH_done (by kernel_rfl) ?_ _
      clear hHeld
      obtain ⟨W3, HW3, b3⟩ : ∃ X, Hid (W2.drew = X) ∧ Below W2.heap.size W2 X := ⟨_, rfl, Below.drew (Below.refl _ _)⟩
      rw [HW3.out]
      have z3 := b3.size
      have B3 := Ke.b B2 b3
      have r_q3 := Ke.r r_q2 b3
      have c_q3 := Ke.c r_q3
      clear r_q2 c_q2
      cases V
      · go_wp2
        go_roundw
        case rel => exact ⟨k + 1, by omega, by go_num, fun y hy => by rw [take_snoc15 HX.out] at hy; rcases List.mem_append.1 hy with h9 | h9; exact HN.out y h9; rw [List.mem_singleton.1 h9]; exact HI.out, B3, r_q3⟩
        case measure => simp [intOf]; omega
      · go_wp2
        go_ret
        exact ⟨by rw [has16_hit HX.out HI.out]; rfl, B3.out⟩
    · have hlt2 : ¬ (k : Int) < (l.length : Int) := by omega
      have HE : Hid (k = l.length) := by show _ = _; omega
      go_wp2
      go_ret
      exact ⟨by rw [has16_none (fun y hy => HN.out y (by rw [HE.out, List.take_length]; exact hy))]; rfl, B2.out⟩

end Go.Proofs.YtlhmemnaiobgkaaGreatDoor.Se
