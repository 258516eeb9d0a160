/- Texts in one: Se1, Se2, SeB. -/
import Derived.Test.YtlhmemnaiobgkaaGreatDoorPq12
import Derived.Test.YtlhmemnaiobgkaaGreatDoorPq13
import Derived.Test.YtlhmemnaiobgkaaGreatDoorPq17
/- Chapter 16: what is reached, what is selected of it; plain facts. -/
namespace Go.Proofs.YtlhmemnaiobgkaaGreatDoor.Se
open Go.RowKit Go.Proofs.YtlhmemnaiobgkaaGreatDoor.Mem Go.Proofs.YtlhmemnaiobgkaaGreatDoor.Laws Go.Proofs.YtlhmemnaiobgkaaGreatDoor.Ver Go.Proofs.YtlhmemnaiobgkaaGreatDoor.Ent Go.Proofs.YtlhmemnaiobgkaaGreatDoor.Fe
set_option linter.unusedVariables false
set_option linter.unusedSimpArgs false

theorem eqT_same (a b : ByteArray) : eqT a b = true ↔ a = b := by
  unfold eqT
  rw [beq_iff_eq, ByteArray.toList_eq, ByteArray.toList_eq]
  constructor
  · intro h; apply ByteArray.ext; apply Array.ext'; exact h
  · rintro rfl; rfl
theorem isN_iff (q n : Nd) : isN q n = true ↔ n = q := by
  unfold isN
  rw [Bool.and_eq_true, sameV_iff]
  have e : (n.path.toList == q.path.toList) = true ↔ n.path = q.path := eqT_same _ _
  rw [e]
  constructor
  · rintro ⟨h1, h2, h3, h4, h5⟩
    cases n; cases q; simp_all
  · rintro rfl; simp
/-- is this need in the row -/
def has16 (l : List Nd) (n : Nd) : Bool := l.any fun x => isN n x
theorem has16_iff (l : List Nd) (n : Nd) : has16 l n = true ↔ n ∈ l := by
  unfold has16
  rw [List.any_eq_true]
  constructor
  · rintro ⟨x, hx, h⟩; rw [isN_iff] at h; subst h; exact hx
  · intro h; exact ⟨n, h, (isN_iff _ _).2 rfl⟩
/-- an entry's needs come behind the row -/
def put16 (row : List Nd) (n : Nd) : List Nd := if has16 row n = true then row else row ++ [n]
def add16 : List Nd → List Nd → Option (List Nd)
  | row, [] => some row
  | row, n :: r => if 60 < (put16 row n).length then none else add16 (put16 row n) r
theorem put16_nodup {row : List Nd} {n : Nd} (h : row.Nodup) : (put16 row n).Nodup := by
  unfold put16
  split
  · exact h
  · rename_i hn
    rw [List.nodup_append]
    refine ⟨h, by simp, fun a ha b hb he => ?_⟩
    simp at hb
    subst hb; subst he
    exact hn ((has16_iff _ _).2 ha)
theorem put16_mem {row : List Nd} {n x : Nd} : x ∈ put16 row n ↔ x ∈ row ∨ x = n := by
  unfold put16
  split
  · rename_i h
    have := (has16_iff _ _).1 h
    constructor
    · exact .inl
    · rintro (h | rfl)
      · exact h
      · exact this
  · simp
theorem put16_app (row : List Nd) (n : Nd) : ∃ t, put16 row n = row ++ t := by
  unfold put16
  split
  · exact ⟨[], by simp⟩
  · exact ⟨[n], rfl⟩
theorem add16_some : ∀ (ns row out : List Nd), row.Nodup → row.length ≤ 60 → add16 row ns = some out →
    (∃ t, out = row ++ t) ∧ out.Nodup ∧ out.length ≤ 60 ∧ (∀ x, x ∈ out ↔ x ∈ row ∨ x ∈ ns) := by
  intro ns
  induction ns with
  | nil =>
    intro row out h1 h2 h
    simp only [add16, Option.some.injEq] at h
    subst h
    exact ⟨⟨[], by simp⟩, h1, h2, fun x => by simp⟩
  | cons n r ih =>
    intro row out h1 h2 h
    rw [add16] at h
    split at h
    · cases h
    · rename_i hl
      obtain ⟨⟨t, ht⟩, k2, k3, k4⟩ := ih _ _ (put16_nodup h1) (by omega) h
      obtain ⟨u, hu⟩ := put16_app row n
      refine ⟨⟨u ++ t, by rw [ht, hu]; simp⟩, k2, k3, fun x => ?_⟩
      rw [k4, put16_mem]
      simp only [List.mem_cons]
      constructor
      · rintro ((h | h) | h)
        · exact .inl h
        · exact .inr (.inl h)
        · exact .inr (.inr h)
      · rintro (h | h | h)
        · exact .inl (.inl h)
        · exact .inl (.inr h)
        · exact .inr h
theorem nodup_len : ∀ (l C : List Nd), l.Nodup → (∀ x ∈ l, x ∈ C) → l.length ≤ C.length := by
  intro l
  haveI : DecidableEq Nd := fun a b => Classical.propDecidable _
  induction l with
  | nil => intro C _ _; simp
  | cons x r ih =>
    intro C hn hs
    have hx : x ∈ C := hs x (by simp)
    obtain ⟨h1, h2⟩ := List.nodup_cons.1 hn
    have := ih (C.erase x) h2 (fun y hy => (List.mem_erase_of_ne (fun h => h1 (by rw [← h]; exact hy))).2 (hs y (by simp [hy])))
    rw [List.length_erase_of_mem hx] at this
    have : 0 < C.length := List.length_pos_of_mem hx
    simp
    omega
theorem add16_fits {C : List Nd} (hC : C.length ≤ 60) : ∀ (ns row : List Nd), row.Nodup → (∀ x ∈ row, x ∈ C) → (∀ x ∈ ns, x ∈ C) → ∃ out, add16 row ns = some out := by
  intro ns
  induction ns with
  | nil => intro row _ _ _; exact ⟨row, rfl⟩
  | cons n r ih =>
    intro row h1 h2 h3
    have hs : ∀ x ∈ put16 row n, x ∈ C := by
      intro x hx
      rcases put16_mem.1 hx with h | rfl
      · exact h2 x h
      · exact h3 x (by simp)
    have := nodup_len _ _ (put16_nodup (n := n) h1) hs
    obtain ⟨out, ho⟩ := ih (put16 row n) (put16_nodup h1) hs (fun x hx => h3 x (by simp [hx]))
    exact ⟨out, by rw [add16, if_neg (by omega)]; exact ho⟩
/-- the row, one behind the other -/
def walk16 (l : List Ev) : Nat → List Nd → Nat → List Nd × Int
  | 0, row, _ => (row, 0)
  | f + 1, row, i => match row[i]? with
    | none => (row, 0)
    | some q => match find15 q l with
      | none => ([], 2)
      | some e => if entry5 e.n e.l = true then (match add16 row e.l with
        | none => ([], 3)
        | some out => walk16 l f out (i + 1)) else ([], 2)
def reach16 (l : List Ev) (roots : List Nd) : List Nd × Int := if needs5 roots = true then walk16 l 61 roots 0 else ([], 1)
/-- there is an entry of this name, and all that it needs is in the row -/
def Hs (l : List Ev) (row : List Nd) (q : Nd) : Prop := ∃ e, find15 q l = some e ∧ entry5 e.n e.l = true ∧ ∀ n ∈ e.l, n ∈ row
theorem walk16_code (l : List Ev) : ∀ (f : Nat) (row : List Nd) (i : Nat), (walk16 l f row i).2 = 0 ∨ (walk16 l f row i).1 = [] ∧ ((walk16 l f row i).2 = 2 ∨ (walk16 l f row i).2 = 3) := by
  intro f
  induction f with
  | zero => intro row i; exact .inl rfl
  | succ f ih =>
    intro row i
    rw [walk16]
    split
    · exact .inl rfl
    · split
      · exact .inr ⟨rfl, .inl rfl⟩
      · split
        · split
          · exact .inr ⟨rfl, .inr rfl⟩
          · exact ih _ _
        · exact .inr ⟨rfl, .inl rfl⟩
theorem reach16_code (l : List Ev) (roots : List Nd) : (reach16 l roots).2 = 0 ∨ (reach16 l roots).1 = [] ∧ (reach16 l roots).2 ≠ 0 := by
  unfold reach16
  split
  · rcases walk16_code l 61 roots 0 with h | ⟨h1, h2 | h2⟩
    · exact .inl h
    · exact .inr ⟨h1, by rw [h2]; decide⟩
    · exact .inr ⟨h1, by rw [h2]; decide⟩
  · exact .inr ⟨rfl, by decide⟩
theorem mem_take_succ {α : Type} {l : List α} {i : Nat} {x q : α} (hq : l[i]? = some q) (h : x ∈ l.take (i + 1)) : x ∈ l.take i ∨ x = q := by
  rw [take_snoc15 hq] at h
  rcases List.mem_append.1 h with h | h
  · exact .inl h
  · simp at h; exact .inr h
theorem walk16_good (l : List Ev) : ∀ (f : Nat) (row : List Nd) (i : Nat), row.Nodup → row.length ≤ 60 → i ≤ row.length → 61 ≤ i + f → (∀ q ∈ row.take i, Hs l row q) → (walk16 l f row i).2 = 0 →
    (∃ t, (walk16 l f row i).1 = row ++ t) ∧ (walk16 l f row i).1.Nodup ∧ (walk16 l f row i).1.length ≤ 60 ∧ (∀ q ∈ (walk16 l f row i).1, Hs l (walk16 l f row i).1 q) ∧
    (∀ C : List Nd, (∀ q ∈ row, q ∈ C) → (∀ q ∈ C, ∀ e, find15 q l = some e → ∀ n ∈ e.l, n ∈ C) → ∀ q ∈ (walk16 l f row i).1, q ∈ C) := by
  intro f
  induction f with
  | zero => intro row i _ h1 h2 h3; omega
  | succ f ih =>
    intro row i hn hl hi hf hd hc
    rw [walk16] at hc ⊢
    cases hq : row[i]? with
    | none =>
      have he : row.length ≤ i := by rw [List.getElem?_eq_none_iff] at hq; exact hq
      refine ⟨⟨[], by simp⟩, hn, hl, ?_, fun C h _ q hq => h q hq⟩
      rw [List.take_of_length_le he] at hd
      exact hd
    | some q =>
      simp only [hq] at hc ⊢
      cases hfi : find15 q l with
      | none => simp only [hfi] at hc; cases hc
      | some e =>
        simp only [hfi] at hc ⊢
        by_cases hok : entry5 e.n e.l = true
        · rw [if_pos hok] at hc ⊢
          cases ha : add16 row e.l with
          | none => simp only [ha] at hc; cases hc
          | some out =>
            simp only [ha] at hc ⊢
            obtain ⟨⟨t, ht⟩, k2, k3, k4⟩ := add16_some _ _ _ hn hl ha
            have hil : i < row.length := (List.getElem?_eq_some_iff.1 hq).1
            have hd2 : ∀ x ∈ out.take (i + 1), Hs l out x := by
              intro x hx
              have hx2 : x ∈ row.take (i + 1) := by
                rw [ht, List.take_append_of_le_length (by omega)] at hx; exact hx
              rcases mem_take_succ hq hx2 with h | rfl
              · obtain ⟨e2, a1, a2, a3⟩ := hd x h
                exact ⟨e2, a1, a2, fun n hn => (k4 n).2 (.inl (a3 n hn))⟩
              · exact ⟨e, hfi, hok, fun n hn => (k4 n).2 (.inr hn)⟩
            have hlen : out.length = row.length + t.length := by rw [ht]; simp
            obtain ⟨⟨u, hu⟩, m2, m3, m4, m5⟩ := ih out (i + 1) k2 k3 (by omega) (by omega) hd2 hc
            refine ⟨⟨t ++ u, by rw [hu, ht]; simp⟩, m2, m3, m4, fun C h1 h2 => m5 C ?_ h2⟩
            intro x hx
            rcases (k4 x).1 hx with h | h
            · exact h1 x h
            · exact h2 q (h1 q (List.mem_of_getElem? hq)) e hfi x h
        · rw [if_neg hok] at hc; cases hc
/-- a row inside one that has all comes to an end without a fault -/
theorem walk16_ok (l : List Ev) {C : List Nd} (hC : C.length ≤ 60) (hH : ∀ q ∈ C, Hs l C q) : ∀ (f : Nat) (row : List Nd) (i : Nat), row.Nodup → row.length ≤ 60 → (∀ q ∈ row, q ∈ C) → (walk16 l f row i).2 = 0 := by
  intro f
  induction f with
  | zero => intro row i _ _ _; rfl
  | succ f ih =>
    intro row i hn hl hs
    rw [walk16]
    cases hq : row[i]? with
    | none => rfl
    | some q =>
      obtain ⟨e, h1, h2, h3⟩ := hH q (hs q (List.mem_of_getElem? hq))
      simp only [h1, if_pos h2]
      obtain ⟨out, ho⟩ := add16_fits hC e.l row hn hs h3
      simp only [ho]
      obtain ⟨_, k2, k3, k4⟩ := add16_some _ _ _ hn hl ho
      refine ih out (i + 1) k2 k3 fun x hx => ?_
      rcases (k4 x).1 hx with h | h
      · exact hs x h
      · exact h3 x h

end Go.Proofs.YtlhmemnaiobgkaaGreatDoor.Se

/- Chapter 16: of each path the latest; plain facts. -/
namespace Go.Proofs.YtlhmemnaiobgkaaGreatDoor.Se
open Go.RowKit Go.Proofs.YtlhmemnaiobgkaaGreatDoor.Mem Go.Proofs.YtlhmemnaiobgkaaGreatDoor.Laws Go.Proofs.YtlhmemnaiobgkaaGreatDoor.Ver Go.Proofs.YtlhmemnaiobgkaaGreatDoor.Ent Go.Proofs.YtlhmemnaiobgkaaGreatDoor.Fe
set_option linter.unusedVariables false
set_option linter.unusedSimpArgs false

theorem bl_irr : ∀ a : List UInt8, Op.bytesLess a a = false := by
  intro a
  induction a with
  | nil => rfl
  | cons x r ih => rw [Op.bytesLess, ih]; simp
theorem bl_tr : ∀ a b c : List UInt8, Op.bytesLess a b = true → Op.bytesLess b c = true → Op.bytesLess a c = true := by
  intro a
  induction a with
  | nil =>
    intro b c h1 h2
    cases c with
    | nil => cases b <;> simp [Op.bytesLess] at h2
    | cons z c => rfl
  | cons x a ih =>
    intro b c h1 h2
    cases b with
    | nil => simp [Op.bytesLess] at h1
    | cons y b =>
      cases c with
      | nil => simp [Op.bytesLess] at h2
      | cons z c =>
        simp only [Op.bytesLess, Bool.or_eq_true, Bool.and_eq_true, decide_eq_true_eq, beq_iff_eq] at h1 h2 ⊢
        rcases h1 with h1 | ⟨rfl, h1⟩
        · rcases h2 with h2 | ⟨rfl, h2⟩
          · exact .inl (UInt8.lt_trans h1 h2)
          · exact .inl h1
        · rcases h2 with h2 | ⟨rfl, h2⟩
          · exact .inl h2
          · exact .inr ⟨rfl, ih _ _ h1 h2⟩
theorem bl_tot : ∀ a b : List UInt8, Op.bytesLess a b = true ∨ a = b ∨ Op.bytesLess b a = true := by
  intro a
  induction a with
  | nil =>
    intro b
    cases b with
    | nil => exact .inr (.inl rfl)
    | cons y b => exact .inl rfl
  | cons x a ih =>
    intro b
    cases b with
    | nil => exact .inr (.inr rfl)
    | cons y b =>
      simp only [Op.bytesLess, Bool.or_eq_true, Bool.and_eq_true, decide_eq_true_eq, beq_iff_eq, List.cons.injEq]
      by_cases h1 : x < y
      · exact .inl (.inl h1)
      · by_cases h2 : y < x
        · exact .inr (.inr (.inl h2))
        · have h3 : x = y := by
            apply UInt8.le_antisymm
            · exact UInt8.not_lt.1 h2
            · exact UInt8.not_lt.1 h1
          subst h3
          rcases ih b with h | h | h
          · exact .inl (.inr ⟨rfl, h⟩)
          · exact .inr (.inl ⟨rfl, h⟩)
          · exact .inr (.inr (.inr ⟨rfl, h⟩))
theorem lt_irr (a : ByteArray) : ltT a a = false := bl_irr _
theorem lt_tr {a b c : ByteArray} (h1 : ltT a b = true) (h2 : ltT b c = true) : ltT a c = true := bl_tr _ _ _ h1 h2
theorem lt_tot (a b : ByteArray) : ltT a b = true ∨ a = b ∨ ltT b a = true := by
  rcases bl_tot a.toList b.toList with h | h | h
  · exact .inl h
  · exact .inr (.inl ((eqT_same a b).1 (by unfold eqT; rw [beq_iff_eq]; exact h)))
  · exact .inr (.inr h)
theorem lt_ne {a b : ByteArray} (h : ltT a b = true) : eqT a b = false := by
  cases he : eqT a b with
  | false => rfl
  | true => rw [(eqT_same a b).1 he, lt_irr] at h; cases h
theorem eqT_no {a b : ByteArray} : eqT a b = false ↔ a ≠ b := by
  rw [← Bool.not_eq_true, not_congr (eqT_same a b)]

/-- needs whose paths rise -/
def Up (l : List Nd) : Prop := l.Pairwise fun x y => ltT x.path y.path = true
theorem Up.one {l : List Nd} (h : Up l) {x y : Nd} (hx : x ∈ l) (hy : y ∈ l) (he : x.path = y.path) : x = y := by
  induction l with
  | nil => cases hx
  | cons z r ih =>
    obtain ⟨h1, h2⟩ := List.pairwise_cons.1 h
    rcases List.mem_cons.1 hx with rfl | hx
    · rcases List.mem_cons.1 hy with rfl | hy
      · rfl
      · have := h1 y hy; rw [he, lt_irr] at this; cases this
    · rcases List.mem_cons.1 hy with rfl | hy
      · have := h1 x (by assumption); rw [he, lt_irr] at this; cases this
      · exact ih h2 (by assumption) (by assumption)
theorem Up.nodup {l : List Nd} (h : Up l) : l.Nodup := by
  refine List.Pairwise.imp ?_ h
  intro a b hab he
  subst he
  rw [lt_irr] at hab; cases hab
theorem rise_up : ∀ l : List Nd, rise l = true → Up l := by
  intro l
  induction l with
  | nil => intro _; exact List.Pairwise.nil
  | cons x r ih =>
    intro h
    cases r with
    | nil => exact List.pairwise_singleton _ _
    | cons y r =>
      have h' : (x.ok && ltT x.path y.path && rise (y :: r)) = true := h
      rw [Bool.and_eq_true, Bool.and_eq_true] at h'
      obtain ⟨⟨h1, h2⟩, h3⟩ := h'
      have hu := ih h3
      refine List.pairwise_cons.2 ⟨fun z hz => ?_, hu⟩
      rcases List.mem_cons.1 hz with rfl | hz
      · exact h2
      · exact lt_tr h2 ((List.pairwise_cons.1 hu).1 z hz)
theorem needs_up {l : List Nd} (h : needs5 l = true) : Up l ∧ l.length ≤ 20 := by
  unfold needs5 at h
  rw [Bool.and_eq_true, decide_eq_true_eq] at h
  exact ⟨rise_up l h.2, h.1⟩
/-- needs that rise and have the same members are the same -/
theorem Up.same : ∀ {l m : List Nd}, Up l → Up m → (∀ x, x ∈ l ↔ x ∈ m) → l = m := by
  intro l
  induction l with
  | nil =>
    intro m _ _ h
    cases m with
    | nil => rfl
    | cons y m => have := (h y).2 (by simp); cases this
  | cons x l ih =>
    intro m h1 h2 h
    cases m with
    | nil => have := (h x).1 (by simp); cases this
    | cons y m =>
      obtain ⟨a1, a2⟩ := List.pairwise_cons.1 h1
      obtain ⟨b1, b2⟩ := List.pairwise_cons.1 h2
      have hxy : x = y := by
        rcases List.mem_cons.1 ((h x).1 (by simp)) with e | hx
        · exact e
        · rcases List.mem_cons.1 ((h y).2 (by simp)) with e | hy
          · exact e.symm
          · have := lt_tr (b1 x hx) (a1 y hy)
            rw [lt_irr] at this; cases this
      subst hxy
      have hn1 : x ∉ l := fun hx => by have := a1 x hx; rw [lt_irr] at this; cases this
      have hn2 : x ∉ m := fun hx => by have := b1 x hx; rw [lt_irr] at this; cases this
      congr 1
      refine ih a2 b2 fun z => ?_
      constructor
      · intro hz
        rcases List.mem_cons.1 ((h z).1 (by simp [hz])) with rfl | hm
        · exact absurd hz hn1
        · exact hm
      · intro hz
        rcases List.mem_cons.1 ((h z).2 (by simp [hz])) with rfl | hm
        · exact absurd hz hn2
        · exact hm

theorem ins_form (l : List Nd) (n : Nd) : insN l n = l.takeWhile (lts n) ++ [n] ++ (l.dropWhile (lts n)).filter (nes n) := by
  have hf := fold_false n l [] (fun x hx h => lt_ne h)
  have htd : l.takeWhile (lts n) ++ l.dropWhile (lts n) = l := List.takeWhile_append_dropWhile
  by_cases hd : l.dropWhile (lts n) = []
  · rw [if_pos hd] at hf
    rw [hd, List.append_nil] at htd
    unfold insN
    rw [hf, hd, htd]
    simp
  · rw [if_neg hd] at hf
    unfold insN
    rw [hf]
    simp
theorem ins_iff (l : List Nd) (n x : Nd) : x ∈ insN l n ↔ x = n ∨ x ∈ l ∧ x.path ≠ n.path := by
  have htd : l.takeWhile (lts n) ++ l.dropWhile (lts n) = l := List.takeWhile_append_dropWhile
  rw [ins_form]
  constructor
  · intro h
    rcases List.mem_append.1 h with h | h
    · rcases List.mem_append.1 h with h | h
      · obtain ⟨h1, h2⟩ := take_lt (lts n) l x h
        exact .inr ⟨h2, eqT_no.1 (lt_ne h1)⟩
      · simp at h; exact .inl h
    · obtain ⟨h1, h2⟩ := List.mem_filter.1 h
      refine .inr ⟨(List.dropWhile_sublist (lts n)).subset h1, eqT_no.1 ?_⟩
      unfold nes at h2
      simpa using h2
  · rintro (rfl | ⟨h1, h2⟩)
    · simp
    · rw [← htd] at h1
      rcases List.mem_append.1 h1 with h | h
      · simp [h]
      · refine List.mem_append_right _ (List.mem_filter.2 ⟨h, ?_⟩)
        unfold nes
        rw [eqT_no.2 h2]
        rfl
theorem Up.ins {l : List Nd} (hl : Up l) (n : Nd) : Up (insN l n) := by
  have htd : l.takeWhile (lts n) ++ l.dropWhile (lts n) = l := List.takeWhile_append_dropWhile
  have hgt : ∀ y ∈ (l.dropWhile (lts n)).filter (nes n), ltT n.path y.path = true := by
    intro y hy
    obtain ⟨hy1, hy2⟩ := List.mem_filter.1 hy
    have hye : y.path ≠ n.path := by unfold nes at hy2; exact eqT_no.1 (by simpa using hy2)
    cases hd : l.dropWhile (lts n) with
    | nil => rw [hd] at hy1; cases hy1
    | cons z r =>
      obtain ⟨hz, a, ha⟩ := mem_drop_head _ _ _ _ hd
      have hz' : ltT z.path n.path = false := hz
      rw [hd] at hy1
      have hzn : n.path = z.path ∨ ltT n.path z.path = true := by
        rcases lt_tot z.path n.path with h | h | h
        · rw [hz'] at h; cases h
        · exact .inl h.symm
        · exact .inr h
      rcases List.mem_cons.1 hy1 with rfl | hr
      · rcases hzn with h | h
        · exact absurd h.symm hye
        · exact h
      · have hp : Up l := hl
        unfold Up at hp
        rw [ha, List.pairwise_append] at hp
        have h2 := (List.pairwise_cons.1 hp.2.1).1 y hr
        rcases hzn with h | h
        · rw [h]; exact h2
        · exact lt_tr h h2
  rw [ins_form]
  unfold Up
  rw [List.pairwise_append, List.pairwise_append]
  refine ⟨⟨List.Pairwise.sublist (List.takeWhile_sublist _) hl, by simp, fun a ha b hb => by simp at hb; subst hb; exact (take_lt (lts b) l a ha).1⟩, List.Pairwise.sublist (List.filter_sublist.trans (List.dropWhile_sublist _)) hl, ?_⟩
  intro a ha b hb
  rcases List.mem_append.1 ha with ha | ha
  · exact lt_tr (take_lt (lts n) l a ha).1 (hgt b hb)
  · simp at ha; subst ha; exact hgt b hb

/-- one version less than the other -/
def lv (x y : Nd) : Bool := lessV x.a x.b x.c x.pre y.a y.b y.c y.pre
/-- x is of q's path, and no less -/
def cov1 (q x : Nd) : Bool := eqT x.path q.path && !lv x q
theorem cov1_iff {q x : Nd} : cov1 q x = true ↔ x.path = q.path ∧ lv x q = false := by
  unfold cov1
  rw [Bool.and_eq_true, eqT_same]
  simp
def covers16 (list needs : List Nd) : Bool := needs.all fun n => list.any (cov1 n)
theorem covers_iff {list needs : List Nd} : covers16 list needs = true ↔ ∀ n ∈ needs, ∃ x ∈ list, x.path = n.path ∧ lv x n = false := by
  unfold covers16
  rw [List.all_eq_true]
  constructor
  · intro h n hn
    obtain ⟨x, hx, hc⟩ := List.any_eq_true.1 (h n hn)
    exact ⟨x, hx, cov1_iff.1 hc⟩
  · intro h n hn
    obtain ⟨x, hx, hc⟩ := h n hn
    exact List.any_eq_true.2 ⟨x, hx, cov1_iff.2 hc⟩
def closed16 (l : List Ev) (list : List Nd) : Bool := list.all fun q => match find15 q l with | none => false | some e => covers16 list e.l
def max16 (l : List Nd) (n : Nd) : List Nd := if l.any (cov1 n) = true then l else insN l n
def sel16 (row : List Nd) : List Nd := row.foldl max16 []
def select16 (l : List Ev) (roots : List Nd) : List Nd × Int := (sel16 (reach16 l roots).1, (reach16 l roots).2)

/-- the order of the versions of these needs -/
structure Lin (D : Nd → Prop) : Prop where
  irr : ∀ {x}, D x → lv x x = false
  tr : ∀ {x y z}, D x → D y → D z → lv x y = true → lv y z = true → lv x z = true
  tot : ∀ {x y}, D x → D y → x.path = y.path → lv x y = false → lv y x = false → x = y
theorem Lin.as {D : Nd → Prop} (h : Lin D) {x y : Nd} (hx : D x) (hy : D y) (h1 : lv x y = true) : lv y x = false := by
  cases h2 : lv y x with
  | false => rfl
  | true => have := h.tr hx hy hx h1 h2; rw [h.irr hx] at this; cases this
/-- no less than what is no less -/
theorem Lin.nl {D : Nd → Prop} (h : Lin D) {x y z : Nd} (hx : D x) (hy : D y) (hz : D z) (hp : x.path = y.path) (h1 : lv x y = false) (h2 : lv y z = false) : lv x z = false := by
  cases h3 : lv x z with
  | false => rfl
  | true =>
    cases h4 : lv y x with
    | true => have := h.tr hy hx hz h4 h3; rw [h2] at this; cases this
    | false => have := h.tot hx hy hp h1 h4; subst this; rw [h3] at h2; cases h2
/-- what was selected of a row -/
structure Sel (row out : List Nd) : Prop where
  up : Up out
  sub : ∀ x ∈ out, x ∈ row
  cov : ∀ q ∈ row, ∃ x ∈ out, x.path = q.path ∧ lv x q = false
theorem max_sel {D : Nd → Prop} (h : Lin D) {row out : List Nd} {n : Nd} (hs : Sel row out) (hD : ∀ x ∈ row, D x) (hn : D n) : Sel (row ++ [n]) (max16 out n) := by
  unfold max16
  cases ha : out.any (cov1 n) with
  | true =>
    rw [if_pos rfl]
    obtain ⟨x, hx, hc⟩ := List.any_eq_true.1 ha
    refine ⟨hs.up, fun x hx => by simp [hs.sub x hx], fun q hq => ?_⟩
    rcases List.mem_append.1 hq with hq | hq
    · exact hs.cov q hq
    · simp at hq; subst hq; exact ⟨x, hx, cov1_iff.1 hc⟩
  | false =>
    rw [if_neg (by simp)]
    refine ⟨hs.up.ins n, fun x hx => ?_, fun q hq => ?_⟩
    · rcases (ins_iff out n x).1 hx with rfl | ⟨h1, _⟩
      · simp
      · simp [hs.sub x h1]
    · rcases List.mem_append.1 hq with hq | hq
      · obtain ⟨x, hx, h1, h2⟩ := hs.cov q hq
        by_cases hp : x.path = n.path
        · refine ⟨n, (ins_iff _ _ _).2 (.inl rfl), by rw [← hp]; exact h1, ?_⟩
          have hxn : lv x n = true := by
            have h3 := List.any_eq_false.1 ha x hx
            cases h4 : lv x n with
            | true => rfl
            | false => exact absurd (cov1_iff.2 ⟨hp, h4⟩) h3
          have dx := hD x (hs.sub x hx)
          have dq := hD q hq
          exact h.nl hn dx dq hp.symm (h.as dx hn hxn) h2
        · exact ⟨x, (ins_iff _ _ _).2 (.inr ⟨hx, hp⟩), h1, h2⟩
      · simp at hq; subst hq
        exact ⟨q, (ins_iff _ _ _).2 (.inl rfl), rfl, h.irr hn⟩
theorem sel_fold {D : Nd → Prop} (h : Lin D) : ∀ (r row out : List Nd), Sel row out → (∀ x ∈ row ++ r, D x) → Sel (row ++ r) (r.foldl max16 out) := by
  intro r
  induction r with
  | nil => intro row out hs _; simpa using hs
  | cons n r ih =>
    intro row out hs hD
    have := ih (row ++ [n]) (max16 out n) (max_sel h hs (fun x hx => hD x (by simp [hx])) (hD n (by simp))) (fun x hx => hD x (by simpa using hx))
    rw [List.foldl_cons]
    simpa using this
theorem sel_sel {D : Nd → Prop} (h : Lin D) (row : List Nd) (hD : ∀ x ∈ row, D x) : Sel row (sel16 row) := by
  have h0 : Sel [] [] := ⟨List.Pairwise.nil, fun x hx => (List.not_mem_nil hx).elim, fun q hq => (List.not_mem_nil hq).elim⟩
  have := sel_fold h row [] [] h0 (by simpa using hD)
  rw [List.nil_append] at this
  exact this
theorem Sel.iff {D : Nd → Prop} (h : Lin D) {row out : List Nd} (hs : Sel row out) (hD : ∀ x ∈ row, D x) (x : Nd) : x ∈ out ↔ x ∈ row ∧ ∀ q ∈ row, x.path = q.path → lv x q = false := by
  constructor
  · intro hx
    refine ⟨hs.sub x hx, fun q hq hp => ?_⟩
    obtain ⟨y, hy, h1, h2⟩ := hs.cov q hq
    rw [hs.up.one hx hy (by rw [hp, h1])]
    exact h2
  · rintro ⟨hx, hm⟩
    obtain ⟨y, hy, h1, h2⟩ := hs.cov x hx
    have hyr := hs.sub y hy
    rw [← h.tot (hD y hyr) (hD x hx) h1 h2 (hm y hyr h1.symm)]
    exact hy
/-- a row between what was selected and the row that it was selected of: the same is selected -/
theorem sel_again {D : Nd → Prop} (h : Lin D) {row row2 out out2 : List Nd} (hs : Sel row out) (hs2 : Sel row2 out2) (hD : ∀ x ∈ row, D x) (h1 : ∀ x ∈ out, x ∈ row2) (h2 : ∀ x ∈ row2, x ∈ row) : out2 = out := by
  have hD2 : ∀ x ∈ row2, D x := fun x hx => hD x (h2 x hx)
  refine hs2.up.same hs.up fun x => ?_
  rw [hs2.iff h hD2, hs.iff h hD]
  constructor
  · rintro ⟨hx, hm⟩
    refine ⟨h2 x hx, fun q hq hp => ?_⟩
    obtain ⟨y, hy, h3, h4⟩ := hs.cov q hq
    have hyx : x.path = y.path := by rw [hp, h3]
    exact h.nl (hD2 x hx) (hD y (hs.sub y hy)) (hD q hq) hyx (hm y (h1 y hy) hyx) h4
  · rintro ⟨hx, hm⟩
    exact ⟨h1 x ((hs.iff h hD x).2 ⟨hx, hm⟩), fun q hq hp => hm q (h2 q hq) hp⟩

end Go.Proofs.YtlhmemnaiobgkaaGreatDoor.Se

/- Chapter 16, draws: what is wanted of entries. -/
namespace Go.Proofs.YtlhmemnaiobgkaaGreatDoor.Se
open Go.RowKit Go.Proofs.YtlhmemnaiobgkaaGreatDoor.Mem Go.Proofs.YtlhmemnaiobgkaaGreatDoor.Laws Go.Proofs.YtlhmemnaiobgkaaGreatDoor.Bytes Go.Proofs.YtlhmemnaiobgkaaGreatDoor.Ver Go.Proofs.YtlhmemnaiobgkaaGreatDoor.Ent Go.Proofs.YtlhmemnaiobgkaaGreatDoor.Fe Go.Proofs.YtlhmemnaiobgkaaGreatDoor.Draw
set_option linter.unusedVariables false
set_option linter.unusedSimpArgs false

/-- what is wanted of entries: names of theirs, in order -/
structure Wnt (T : List Ev) (R : List Nd) : Prop where
  up : Up R
  sub : ∀ n ∈ R, ∃ x ∈ T, x.n = n
theorem Wnt.nil (T : List Ev) : Wnt T [] := ⟨List.Pairwise.nil, fun n hn => (List.not_mem_nil hn).elim⟩
theorem Wnt.ins {T : List Ev} {R : List Nd} (h : Wnt T R) {x : Ev} (hx : x ∈ T) : Wnt T (insN R x.n) := by
  refine ⟨h.up.ins _, fun n hn => ?_⟩
  rcases ins_mem hn with rfl | h9
  · exact ⟨x, hx, rfl⟩
  · exact h.sub n h9
theorem ins_pos (l : List Nd) (n : Nd) : 1 ≤ (insN l n).length := by
  have : n ∈ insN l n := (ins_iff l n n).2 (.inl rfl)
  exact List.length_pos_of_mem this

set_option maxRecDepth 1000000 in
set_option maxHeartbeats 8000000 in
theorem roots15_any (W0 w : World) (g : Nat) (vb : Value) (xs : List Int) (hs : Sl W0 vb (bs xs)) (hby : Byt xs) (hx : xs.length ≤ 140737488355328) (hB : Below W0.heap.size W0 w) (hg : W0.heap.size ≤ g) (hcu : Cur w g vb xs.length) (v : Value) (T : List Ev) (lo0 hi0 : Nat) (hO : Oet w lo0 hi0 v T) (hgo : g < lo0 ∨ hi0 ≤ g) (h1 : 1 ≤ T.length) (h8 : T.length ≤ 8) :
    Calls Tryz.prog 35 #[.pointer (some ⟨g, 0, none⟩), v] w fun e w' => ∃ (v' : Value) (R : List Nd), e = .returned v' ∧ 1 ≤ R.length ∧ R.length ≤ 3 ∧ Wnt T R ∧ Od w' w.heap.size w'.heap.size v' R ∧ Drawn W0 w g vb xs w' := by
  obtain ⟨ao, cap, rfl, hcap⟩ := hO.form
  have hi0w := hO.2.2
  have HSW : Hid (Sl W0 vb (bs xs)) := hs
  have hgw := hcu.lt
  have f_o0 : Hid (Oet w lo0 hi0 (.slice ao T.length cap) T) := hO
  clear hs hO
  have B0 : Hid (Apart g (g + 1) w w) := Apart.refl _ _ _
  have cu0 : Hid (Cur w (g) vb xs.length) := hcu
  have bw0 : Hid (Below W0.heap.size W0 w) := hB
  go_enter Tryz.func35, Tryz.ntmps35
  obtain ⟨W1, HW1, b1, f_d1⟩ : ∃ X, Hid (w.alloc (.cells #[] 38) = X) ∧ Below w.heap.size w X ∧ Hid (Odt X w.heap.size X.heap.size (.slice (some ⟨w.heap.size, 0, none⟩) 0 0) []) := ⟨_, rfl, (Below.refl _ _).alloc (Nat.le_refl _) _, ⟨On.lit 5 w w.heap.size 38 (Nat.le_refl _), Nat.le_refl _⟩⟩
  have z1 := b1.size
  have B1 := Kd.B B0 b1
  have f_o1 : Hid (Oet W1 lo0 hi0 (.slice (ao) T.length cap) T) := Oet.later f_o0.out b1
  clear f_o0
  have cu1 := Kd.c cu0 b1
  have bw1 := Ke.b bw0 b1
  clear cu0 bw0
  clear b1
  go_wp2_with fail
  rw [HW1.out]
  refine (below_any W0 W1 g vb xs 3 (by omega) (by omega) HSW.out hby hx bw1.out hg cu1.out).mono ?_
  rintro e W2 ⟨y, rfl, hy0, hy1, d2⟩
  have z2 := d2.apart.size
  have B2 := Kd.D B1 d2
  have cu2 := Kd.e d2
  have bw2 := Kd.f d2
  have f_o2 : Hid (Oet W2 lo0 hi0 (.slice (ao) T.length cap) T) := Oet.drawn f_o1.out d2 (by omega)
  have f_d2 : Hid (Odt W2 w.heap.size W1.heap.size (.slice (some ⟨w.heap.size, 0, none⟩) 0 0) []) := Odt.drawn f_d1.out d2 (by omega)
  clear cu1 bw1 d2 f_o1 f_d1
  obtain ⟨j0, hj0, hj1, hj2⟩ : ∃ j : Nat, (1 : Int) + y = (j : Int) ∧ 1 ≤ j ∧ j ≤ 3 := ⟨((1 : Int) + y).toNat, by omega, by omega, by omega⟩
  have w1 : IntKind.i64.wrap (1 + y) = (j0 : Int) := by rw [hj0, IntKind.wrap_i64]; omega
  clear hj0
  go_wp2
  go_loopw [5, 6] (fun rv iv wr => ∃ (j : Nat) (R : List Nd) (a8 : Option Addr) (L8 c8 lo8 hi8 : Nat), rv = .slice a8 L8 c8 ∧ iv = .int .i64 (j : Int) ∧ R.length + j ≤ 3 ∧ 1 ≤ R.length + j ∧ w.heap.size ≤ lo8 ∧ lo8 ≤ hi8 ∧ hi8 ≤ wr.heap.size ∧ w.heap.size ≤ wr.heap.size ∧ Hid (Wnt T R) ∧ Hid (Odt wr lo8 hi8 (.slice a8 L8 c8) R) ∧ Hid (Oet wr lo0 hi0 (.slice ao T.length cap) T) ∧ Hid (Apart g (g + 1) w wr) ∧ Hid (Cur wr (g) vb xs.length) ∧ Hid (Below W0.heap.size W0 wr)) (fun _ iv _ => (intOf iv).toNat)
  case atStart => exact ⟨j0, [], some ⟨w.heap.size, 0, none⟩, 0, 0, w.heap.size, W1.heap.size, rfl, rfl, by simp; omega, by simp; omega, Nat.le_refl _, by omega, by omega, by omega, Wnt.nil T, f_d2, f_o2, B2, cu2, bw2⟩
  case round =>
    obtain ⟨j, R, a8, L8, c8, lo8, hi8, rfl, rfl, hRj, hRj1, hlo8, hlh8, hhi8, hwW, HWN, f_d3, f_o3, B3, cu3, bw3⟩ := hrel
    obtain ⟨W3, hW3⟩ : ∃ X, X = wr := ⟨_, rfl⟩
    subst hW3
    clear f_d2 f_o2 cu2 bw2 w1
    have c2 : (0 : Int) < (T.length : Int) := by omega
    by_cases hj0 : j = 0
    · subst hj0
      go_wp2
      go_ret
      exact ⟨_, R, rfl, by omega, by omega, HWN.out, On.mono f_d3.out.1 hlo8 f_d3.out.2, ⟨cu3.out, B3.out, bw3.out⟩⟩
    · obtain ⟨i2, rfl⟩ : ∃ i2, j = i2 + 1 := ⟨j - 1, by omega⟩
      have d0 : (0 : Int) < ((i2 + 1 : Nat) : Int) := by omega
      have wj : IntKind.i64.wrap (((i2 + 1 : Nat) : Int) - 1) = (i2 : Int) := by rw [IntKind.wrap_i64]; omega
      clear hj0
      go_wp2_with fail
      refine (below_any W0 W3 g vb xs (T.length : Int) (by omega) (by omega) HSW.out hby hx bw3.out hg cu3.out).mono ?_
      rintro e W4 ⟨y3, rfl, hy30, hy31, d4⟩
      have z4 := d4.apart.size
      have B4 := Kd.D B3 d4
      have cu4 := Kd.e d4
      have bw4 := Kd.f d4
      have f_o4 : Hid (Oet W4 lo0 hi0 (.slice (ao) T.length cap) T) := Oet.drawn f_o3.out d4 (by omega)
      have f_d4 : Hid (Odt W4 lo8 hi8 (.slice a8 L8 c8) R) := Odt.drawn f_d3.out d4 (by omega)
      clear cu3 bw3 d4 f_o3 f_d3
      obtain ⟨p, hp0, hp1⟩ : ∃ p : Nat, y3 = (p : Int) ∧ p < T.length := ⟨y3.toNat, by omega, by omega⟩
      subst hp0
      clear hy30 hy31
      obtain ⟨x, hx9⟩ : ∃ x, T[p]? = some x := ⟨T[p], by simp [hp1]⟩
      obtain ⟨bx, offx, capx, he, _, m0, m1, m2, m3, m4, m5, hsdx⟩ := Se.at f_o4.out.se hx9
      simp only [Value.slice.injEq] at he
      obtain ⟨rfl, _, rfl⟩ := he
      have hxT := List.mem_of_getElem? hx9
      obtain ⟨ax, Lx, cx, hux⟩ : ∃ ax Lx cx, x.u = .slice ax Lx cx := by obtain ⟨_, ax, cx, hux, _⟩ := hsdx; exact ⟨ax, _, cx, hux⟩
      rw [hux] at m5
      clear hx9 hsdx hux
      have e9a : (p : Int) < (T.length : Int) := by omega
      obtain ⟨W5, HW5, b5, y5, hS5, r_x5⟩ := Ke.l1 W4 #[.string x.n.path, .int .i64 x.n.a, .int .i64 x.n.b, .int .i64 x.n.c, .string x.n.pre, .slice ax Lx cx] 34
      have z5 := b5.size
      have B5 := Kd.B B4 b5
      have c_x5 := Ke.c r_x5
      have f_o5 : Hid (Oet W5 lo0 hi0 (.slice (some ⟨bx, offx, none⟩) T.length cap) T) := Oet.later f_o4.out b5
      have f_d5 : Hid (Odt W5 lo8 hi8 (.slice a8 L8 c8) R) := Odt.later f_d4.out b5
      clear f_o4 f_d4
      have cu5 := Kd.c cu4 b5
      have bw5 := Ke.b bw4 b5
      clear cu4 bw4
      go_wp2_with fail
      rw [HW5.out]
      clear m0 m1 m2 m3 m4 m5
      refine (put_any W5 _ R x.n f_d5.out.1.sd (by omega)).mono ?_
      rintro e W6 ⟨v9, rfl, od9, b6⟩
      have z6 := b6.size
      have B6 := Kd.B B5 b6
      have r_x6 := Ke.r r_x5 b6
      have c_x6 := Ke.c r_x6
      clear r_x5 c_x5
      have f_o6 : Hid (Oet W6 lo0 hi0 (.slice (some ⟨bx, offx, none⟩) T.length cap) T) := Oet.later f_o5.out b6
      have f_d6 : Hid (Odt W6 lo8 hi8 (.slice a8 L8 c8) R) := Odt.later f_d5.out b6
      clear f_o5 f_d5
      have cu6 := Kd.c cu5 b6
      have bw6 := Ke.b bw5 b6
      clear cu5 bw5
      obtain ⟨a9, L9, c9, rfl⟩ : ∃ a9 L9 c9, v9 = .slice a9 L9 c9 := by obtain ⟨a9, c9, e9⟩ := Od.slice od9; exact ⟨a9, _, c9, e9⟩
      clear f_d6
      have f_d6 : Hid (Odt W6 W5.heap.size W6.heap.size (.slice a9 L9 c9) (insN R x.n)) := ⟨od9, Nat.le_refl _⟩
      clear od9
      clear r_x6 c_x6
      have HWN2 : Hid (Wnt T (insN R x.n)) := HWN.out.ins hxT
      have hRk2 := ins_grow R x.n
      have hRk3 := ins_pos R x.n
      go_wp2
      go_roundw
      case rel => exact ⟨i2, insN R x.n, a9, L9, c9, W5.heap.size, W6.heap.size, rfl, by go_num, by omega, by omega, by omega, by omega, by omega, by omega, HWN2, f_d6, f_o6, B6, cu6, bw6⟩
      case measure => (simp [intOf]; try omega)

end Go.Proofs.YtlhmemnaiobgkaaGreatDoor.Se
