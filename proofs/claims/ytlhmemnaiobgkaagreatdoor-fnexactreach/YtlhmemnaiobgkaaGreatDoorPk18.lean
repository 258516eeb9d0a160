/- Texts in one: EntQ. -/
import Derived.Test.YtlhmemnaiobgkaaGreatDoorPk17
/- Chapter 5, draws: a need put in order; plain facts alone. -/
namespace Go.Proofs.YtlhmemnaiobgkaaGreatDoor.Ent
open Go.RowKit Go.Proofs.YtlhmemnaiobgkaaGreatDoor.Mem Go.Proofs.YtlhmemnaiobgkaaGreatDoor.Laws Go.Proofs.YtlhmemnaiobgkaaGreatDoor.Bytes Go.Proofs.YtlhmemnaiobgkaaGreatDoor.Sha Go.Proofs.YtlhmemnaiobgkaaGreatDoor.Ver Go.Proofs.YtlhmemnaiobgkaaGreatDoor.Mod Go.Proofs.YtlhmemnaiobgkaaGreatDoor.Draw
set_option linter.unusedVariables false
set_option linter.unusedSimpArgs false

/-- one round of putting n in order -/
def stepA (n : Nd) (s : List Nd × Bool) (x : Nd) : List Nd × Bool := if (!s.2 && !ltT x.path n.path) = true then (s.1 ++ [n], true) else s
def stepB (n : Nd) (s : List Nd × Bool) (x : Nd) : List Nd × Bool := if eqT x.path n.path = false then (s.1 ++ [x], s.2) else s
def stepN (n : Nd) (s : List Nd × Bool) (x : Nd) : List Nd × Bool := stepB n (stepA n s x) x
def insN (l : List Nd) (n : Nd) : List Nd := if (l.foldl (stepN n) ([], false)).2 = true then (l.foldl (stepN n) ([], false)).1 else (l.foldl (stepN n) ([], false)).1 ++ [n]

theorem stepN_len (n : Nd) (s : List Nd × Bool) (x : Nd) : (stepN n s x).1.length ≤ s.1.length + 2 := by
  unfold stepN stepB stepA
  split <;> split <;> simp <;> omega
theorem fold_len (n : Nd) : ∀ (l : List Nd) (s : List Nd × Bool), (l.foldl (stepN n) s).1.length ≤ s.1.length + 2 * l.length := by
  intro l
  induction l with
  | nil => intro s; simp
  | cons x r ih =>
    intro s
    have h1 := ih (stepN n s x)
    have h2 := stepN_len n s x
    simp only [List.foldl_cons, List.length_cons]
    omega
theorem stepA_mem {n : Nd} {s : List Nd × Bool} {x y : Nd} (h : y ∈ (stepA n s x).1) : y ∈ s.1 ∨ y = n := by
  unfold stepA at h
  split at h
  · rcases List.mem_append.1 h with h | h
    · exact .inl h
    · simp at h; exact .inr h
  · exact .inl h
theorem stepN_mem {n : Nd} {s : List Nd × Bool} {x y : Nd} (h : y ∈ (stepN n s x).1) : y ∈ s.1 ∨ y = n ∨ y = x := by
  unfold stepN stepB at h
  split at h
  · rcases List.mem_append.1 h with h | h
    · rcases stepA_mem h with h | h
      · exact .inl h
      · exact .inr (.inl h)
    · simp at h; exact .inr (.inr h)
  · rcases stepA_mem h with h | h
    · exact .inl h
    · exact .inr (.inl h)
theorem fold_mem {n : Nd} : ∀ (l : List Nd) (s : List Nd × Bool) (y : Nd), y ∈ (l.foldl (stepN n) s).1 → y ∈ s.1 ∨ y = n ∨ y ∈ l := by
  intro l
  induction l with
  | nil => intro s y h; exact .inl h
  | cons x r ih =>
    intro s y h
    rcases ih _ _ h with h | h | h
    · rcases stepN_mem h with h | h | h
      · exact .inl h
      · exact .inr (.inl h)
      · exact .inr (.inr (by simp [h]))
    · exact .inr (.inl h)
    · exact .inr (.inr (by simp [h]))
theorem ins_mem {l : List Nd} {n y : Nd} (h : y ∈ insN l n) : y = n ∨ y ∈ l := by
  unfold insN at h
  split at h
  · rcases fold_mem _ _ _ h with h | h
    · cases h
    · exact h
  · rcases List.mem_append.1 h with h | h
    · rcases fold_mem _ _ _ h with h | h
      · cases h
      · exact h
    · simp at h; exact .inl h

def lts (n : Nd) (x : Nd) : Bool := ltT x.path n.path
def nes (n : Nd) (x : Nd) : Bool := !eqT x.path n.path
theorem fold_true (n : Nd) : ∀ (l out : List Nd), l.foldl (stepN n) (out, true) = (out ++ l.filter (nes n), true) := by
  intro l
  induction l with
  | nil => intro out; simp
  | cons x r ih =>
    intro out
    rw [List.foldl_cons]
    have hA : stepA n (out, true) x = (out, true) := by unfold stepA; simp
    rw [show stepN n (out, true) x = stepB n (stepA n (out, true) x) x from rfl, hA]
    cases he : eqT x.path n.path
    · have hB : stepB n (out, true) x = (out ++ [x], true) := by unfold stepB; rw [he]; simp
      rw [hB, ih, List.filter_cons_of_pos (by unfold nes; rw [he]; rfl)]
      simp
    · have hB : stepB n (out, true) x = (out, true) := by unfold stepB; rw [he]; simp
      rw [hB, ih, List.filter_cons_of_neg (by unfold nes; rw [he]; simp)]
theorem fold_false (n : Nd) : ∀ (l out : List Nd), (∀ x ∈ l, ltT x.path n.path = true → eqT x.path n.path = false) → l.foldl (stepN n) (out, false) = if (l.dropWhile (lts n)) = [] then (out ++ l, false) else (out ++ l.takeWhile (lts n) ++ [n] ++ (l.dropWhile (lts n)).filter (nes n), true) := by
  intro l
  induction l with
  | nil => intro out _; simp
  | cons x r ih =>
    intro out hirr
    rw [List.foldl_cons]
    cases hl : ltT x.path n.path
    · have hA : stepA n (out, false) x = (out ++ [n], true) := by unfold stepA; rw [hl]; simp
      have hd : (x :: r).dropWhile (lts n) = x :: r := by rw [List.dropWhile_cons_of_neg (by unfold lts; rw [hl]; simp)]
      have ht : (x :: r).takeWhile (lts n) = [] := by rw [List.takeWhile_cons_of_neg (by unfold lts; rw [hl]; simp)]
      rw [hd, ht, if_neg (by simp), show stepN n (out, false) x = stepB n (stepA n (out, false) x) x from rfl, hA]
      cases he : eqT x.path n.path
      · have hB : stepB n (out ++ [n], true) x = (out ++ [n] ++ [x], true) := by unfold stepB; rw [he]; simp
        rw [hB, fold_true, List.filter_cons_of_pos (by unfold nes; rw [he]; rfl)]
        simp
      · have hB : stepB n (out ++ [n], true) x = (out ++ [n], true) := by unfold stepB; rw [he]; simp
        rw [hB, fold_true, List.filter_cons_of_neg (by unfold nes; rw [he]; simp)]
        simp
    · have hA : stepA n (out, false) x = (out, false) := by unfold stepA; rw [hl]; simp
      have hB : stepB n (out, false) x = (out ++ [x], false) := by unfold stepB; rw [hirr x (by simp) hl]; simp
      have hd : (x :: r).dropWhile (lts n) = r.dropWhile (lts n) := by rw [List.dropWhile_cons_of_pos (by unfold lts; rw [hl])]
      have ht : (x :: r).takeWhile (lts n) = x :: r.takeWhile (lts n) := by rw [List.takeWhile_cons_of_pos (by unfold lts; rw [hl])]
      rw [hd, ht, show stepN n (out, false) x = stepB n (stepA n (out, false) x) x from rfl, hA, hB, ih _ (fun y hy => hirr y (by simp [hy]))]
      by_cases hn : r.dropWhile (lts n) = []
      · rw [if_pos hn, if_pos hn]; simp
      · rw [if_neg hn, if_neg hn]; simp

theorem pathL_lt : ∀ a ∈ pathL, ∀ b ∈ pathL, (ltT a b = true → eqT a b = false) ∧ (ltT a b = true ∨ eqT a b = true ∨ ltT b a = true) ∧ (eqT a b = true → ∀ c ∈ pathL, ltT a c = ltT b c) ∧ ∀ c ∈ pathL, ltT a b = true → ltT b c = true → ltT a c = true := by decide +kernel

/-- needs in order, with drawn paths -/
def Srt (l : List Nd) : Prop := (∀ x ∈ l, Dn x) ∧ l.Pairwise fun x y => ltT x.path y.path = true
theorem mem_drop_head {α : Type} (p : α → Bool) : ∀ (l : List α) (z : α) (r : List α), l.dropWhile p = z :: r → p z = false ∧ ∃ a, l = a ++ z :: r := by
  intro l
  induction l with
  | nil => intro z r h; simp at h
  | cons x l ih =>
    intro z r h
    cases hp : p x
    · rw [List.dropWhile_cons_of_neg (by simp [hp])] at h
      simp only [List.cons.injEq] at h
      obtain ⟨rfl, rfl⟩ := h
      exact ⟨hp, [], rfl⟩
    · rw [List.dropWhile_cons_of_pos hp] at h
      obtain ⟨h1, a, h2⟩ := ih z r h
      exact ⟨h1, x :: a, by rw [h2]; rfl⟩
theorem take_lt {α : Type} (p : α → Bool) : ∀ (l : List α), ∀ x ∈ l.takeWhile p, p x = true ∧ x ∈ l := by
  intro l
  induction l with
  | nil => intro x hx; cases hx
  | cons y l ih =>
    intro x hx
    cases hp : p y
    · rw [List.takeWhile_cons_of_neg (by simp [hp])] at hx; cases hx
    · rw [List.takeWhile_cons_of_pos hp] at hx
      rcases List.mem_cons.1 hx with rfl | hx
      · exact ⟨hp, by simp⟩
      · have := ih x hx
        exact ⟨this.1, by simp [this.2]⟩
theorem drop_gt {l : List Nd} {n : Nd} (hl : Srt l) (hn : Dn n) : ∀ y ∈ (l.dropWhile (lts n)).filter (nes n), y ∈ l ∧ ltT n.path y.path = true := by
  intro y hy
  obtain ⟨hy1, hy2⟩ := List.mem_filter.1 hy
  cases hd : l.dropWhile (lts n) with
  | nil => rw [hd] at hy1; cases hy1
  | cons z r =>
    obtain ⟨hz, a, ha⟩ := mem_drop_head _ _ _ _ hd
    rw [hd] at hy1
    have hzl : z ∈ l := by rw [ha]; simp
    have hyl : y ∈ l := by rw [ha]; exact List.mem_append_right _ hy1
    have hzy : y = z ∨ ltT z.path y.path = true := by
      rcases List.mem_cons.1 hy1 with h | h
      · exact .inl h
      · have hp := hl.2
        rw [ha, List.pairwise_append] at hp
        exact .inr ((List.pairwise_cons.1 hp.2.1).1 y h)
    have hze : eqT y.path n.path = false := by unfold nes at hy2; simpa using hy2
    have pz := (hl.1 z hzl).1
    have py := (hl.1 y hyl).1
    have pn := hn.1
    refine ⟨hyl, ?_⟩
    have hz' : ltT z.path n.path = false := hz
    rcases (pathL_lt z.path pz n.path pn).2.1 with h | h | h
    · rw [hz'] at h; cases h
    · rcases hzy with rfl | h2
      · rw [hze] at h; cases h
      · rw [← (pathL_lt z.path pz n.path pn).2.2.1 h y.path py]; exact h2
    · rcases hzy with rfl | h2
      · exact h
      · exact (pathL_lt n.path pn z.path pz).2.2.2 y.path py h h2
/-- a need put in order: they stay in order -/
theorem ins_srt {l : List Nd} {n : Nd} (hl : Srt l) (hn : Dn n) : Srt (insN l n) ∧ (insN l n).length ≤ l.length + 1 := by
  have hm : ∀ x ∈ insN l n, Dn x := by
    intro x hx
    rcases ins_mem hx with rfl | h
    · exact hn
    · exact hl.1 x h
  have hf := fold_false n l [] (fun x hx => (pathL_lt x.path (hl.1 x hx).1 n.path hn.1).1)
  have hall : ∀ x ∈ l.takeWhile (lts n), ltT x.path n.path = true ∧ x ∈ l := take_lt (lts n) l
  have htd : l.takeWhile (lts n) ++ l.dropWhile (lts n) = l := List.takeWhile_append_dropWhile
  have hlen : (l.takeWhile (lts n)).length + (l.dropWhile (lts n)).length = l.length := by rw [← List.length_append, htd]
  by_cases hd : l.dropWhile (lts n) = []
  · rw [if_pos hd] at hf
    have hi : insN l n = l ++ [n] := by unfold insN; rw [hf]; simp
    have ht : l.takeWhile (lts n) = l := by rw [hd, List.append_nil] at htd; exact htd
    rw [ht] at hall
    refine ⟨⟨hm, ?_⟩, by rw [hi]; simp⟩
    rw [hi, List.pairwise_append]
    exact ⟨hl.2, by simp, fun a ha b hb => by simp at hb; subst hb; exact (hall a ha).1⟩
  · rw [if_neg hd] at hf
    have hi : insN l n = l.takeWhile (lts n) ++ [n] ++ (l.dropWhile (lts n)).filter (nes n) := by unfold insN; rw [hf]; simp
    have hgt := drop_gt hl hn
    refine ⟨⟨hm, ?_⟩, ?_⟩
    · rw [hi, List.pairwise_append, List.pairwise_append]
      refine ⟨⟨hl.2.sublist (List.takeWhile_sublist _), by simp, fun a ha b hb => by simp at hb; subst hb; exact (hall a ha).1⟩, (hl.2.sublist (List.dropWhile_sublist _)).sublist List.filter_sublist, ?_⟩
      intro a ha b hb
      obtain ⟨hbl, hbn⟩ := hgt b hb
      rcases List.mem_append.1 ha with ha | ha
      · obtain ⟨h1, h2⟩ := hall a ha
        exact (pathL_lt a.path (hl.1 a h2).1 n.path hn.1).2.2.2 b.path (hl.1 b hbl).1 h1 hbn
      · simp at ha; subst ha; exact hbn
    · rw [hi]
      have := List.length_filter_le (nes n) (l.dropWhile (lts n))
      simp
      omega
theorem srt_rise : ∀ l : List Nd, Srt l → rise l = true := by
  intro l
  induction l with
  | nil => intro _; rfl
  | cons x r ih =>
    intro h
    have hr : Srt r := ⟨fun y hy => h.1 y (by simp [hy]), (List.pairwise_cons.1 h.2).2⟩
    cases r with
    | nil => exact (h.1 x (by simp)).2.1
    | cons y r =>
      show (x.ok && ltT x.path y.path && rise (y :: r)) = true
      rw [(h.1 x (by simp)).2.1, (List.pairwise_cons.1 h.2).1 y (by simp), ih hr]
      rfl

end Go.Proofs.YtlhmemnaiobgkaaGreatDoor.Ent
