/- Texts in one: Sr2, GetT, GetTs, Gro, SrA, SrC, Gro2, Sz2. -/
import Derived.Test.YtfpaichdkddglabDoorPk11
import Derived.Test.YtfpaichdkddglabDoorPk4
import Derived.Test.YtfpaichdkddglabDoorPk2
import Derived.Test.YtfpaichdkddglabDoorPk9
import Derived.Test.YtfpaichdkddglabDoorPk8
import Derived.Test.YtfpaichdkddglabDoorPk10
import Derived.Test.YtfpaichdkddglabDoorPk7
import Derived.Deep.MidRow
/- Chapter 12: stores, what commits make of them, what is opened of bytes; plain facts alone. -/
namespace Go.Proofs.YtfpaichdkddglabDoor.Sr
open Go.RowKit Go.Proofs.YtfpaichdkddglabDoor.Mem Go.Proofs.YtfpaichdkddglabDoor.Laws Go.Proofs.YtfpaichdkddglabDoor.Sha Go.Proofs.YtfpaichdkddglabDoor.Tr Go.Proofs.YtfpaichdkddglabDoor.He Go.Proofs.YtfpaichdkddglabDoor.Lg
set_option linter.unusedVariables false
set_option linter.unusedSimpArgs false

/-- a store: texts, head, bytes, how many are sure -/
structure Sto where
  l : List ByteArray
  h : Hd
  b : List Int
  s : Int
def new12 : Sto := ⟨[], headOf [], [], 0⟩
/-- the log that commits make, from a place on; whether they do, to the end -/
def replayF : Nat → List Int → Nat → List ByteArray → Hd → List ByteArray × Hd × Bool
  | 0, _, _, l, hd => (l, hd, true)
  | f + 1, xs, a, l, hd =>
    if a < xs.length then
      if (getC xs (a : Int)).2.2.2 = true ∧ l.length + (getC xs (a : Int)).2.1.length ≤ 200 then
        if eqH (getC xs (a : Int)).1 (headOf (l ++ (getC xs (a : Int)).2.1)) = true then
          replayF f xs (getC xs (a : Int)).2.2.1.toNat (l ++ (getC xs (a : Int)).2.1) (getC xs (a : Int)).1
        else (l ++ (getC xs (a : Int)).2.1, (getC xs (a : Int)).1, false)
      else (l, hd, false)
    else (l, hd, true)
def replay (xs : List Int) : List ByteArray × Hd × Bool := replayF xs.length xs 0 [] (headOf [])
/-- what StoreOk answers -/
def storeOk (st : Sto) : Bool := logOk st.l st.h && decide (st.b.length ≤ 60000) && decide (0 ≤ st.s ∧ st.s ≤ (st.b.length : Int)) && (replay st.b).2.2 && decide ((replay st.b).1 = st.l)
/-- a commit to a store that is right -/
def commit1 (st : Sto) (t : List Hd) (h : Hd) (x : List ByteArray) : Sto × Int :=
  if (extend st.l st.h t h x).2.2 = 0 then (⟨(extend st.l st.h t h x).1, (extend st.l st.h t h x).2.1, st.b ++ put h x, st.s⟩, 0) else (st, (extend st.l st.h t h x).2.2)
def commit (st : Sto) (t : List Hd) (h : Hd) (x : List ByteArray) : Sto × Int :=
  if storeOk st = true ∧ st.b.length + (put h x).length ≤ 60000 then commit1 st t h x else (st, 1)
def makeSure (st : Sto) : Sto := if storeOk st = true then ⟨st.l, st.h, st.b, (st.b.length : Int)⟩ else st
/-- how many bytes a crash leaves -/
def fallN (st : Sto) (keep : Int) : Nat :=
  let n := min (max st.s 0).toNat st.b.length
  n + min (max keep 0).toNat (st.b.length - n)
def fall (st : Sto) (keep : Int) : List Int := st.b.take (fallN st keep)
/-- what is opened of bytes, from a place on, and how many commits there were -/
def openF : Nat → List Hd → List Int → Nat → Sto → Nat → Sto × Nat
  | 0, _, _, _, st, n => (st, n)
  | f + 1, t, xs, a, st, n =>
    if a < xs.length then
      if (getC xs (a : Int)).2.2.2 = true ∧ (commit1 st t (getC xs (a : Int)).1 (getC xs (a : Int)).2.1).2 = 0 then
        openF f t xs (getC xs (a : Int)).2.2.1.toNat (commit1 st t (getC xs (a : Int)).1 (getC xs (a : Int)).2.1).1 (n + 1)
      else (st, n)
    else (st, n)
def openS (t : List Hd) (xs : List Int) : Sto × Nat :=
  let r := openF (xs.take 60000).length t (xs.take 60000) 0 new12 0
  (⟨r.1.l, r.1.h, r.1.b, (r.1.b.length : Int)⟩, r.2)

theorem extend_good {l x : List ByteArray} {hd h : Hd} {t : List Hd} (hc : (extend l hd t h x).2.2 = 0) :
    logOk l hd = true ∧ okH h = true ∧ signed t h = true ∧ 1 ≤ x.length ∧ (l ++ x).length ≤ 200 ∧ h = headOf (l ++ x) ∧ extend l hd t h x = (l ++ x, h, 0) := by
  unfold extend at hc
  split at hc
  · rename_i hk
    split at hc
    · rename_i hs
      split at hc
      · simp at hc
      · rename_i hx
        split at hc
        · rename_i he
          have := okH_parts hk.2.1
          refine ⟨hk.1, hk.2.1, hs, by omega, by have := hk.2.2; omega, (eqH_iff _ _).1 he, extend0 hk hs hx he⟩
        · simp at hc
    · simp at hc
  · simp at hc
theorem extend_of {l x : List ByteArray} {hd : Hd} {t : List Hd} (hk : logOk l hd = true) (hx : 1 ≤ x.length) (hl : (l ++ x).length ≤ 200) (hs : signed t (headOf (l ++ x)) = true) : extend l hd t (headOf (l ++ x)) x = (l ++ x, headOf (l ++ x), 0) := by
  have hn : (headOf (l ++ x)).n = ((l ++ x).length : Int) := by unfold headOf; rw [if_pos hl]
  have ho : okH (headOf (l ++ x)) = true := by
    unfold okH
    rw [decide_eq_true_eq, hn]
    refine ⟨⟨by omega, by omega⟩, ?_⟩
    unfold headOf
    rw [if_pos hl]
    exact root_size _
  exact extend0 ⟨hk, ho, hn⟩ hs (by omega) ((eqH_iff _ _).2 rfl)
theorem commit1_good {st : Sto} {t : List Hd} {h : Hd} {x : List ByteArray} (hc : (commit1 st t h x).2 = 0) :
    logOk st.l st.h = true ∧ okH h = true ∧ signed t h = true ∧ 1 ≤ x.length ∧ (st.l ++ x).length ≤ 200 ∧ h = headOf (st.l ++ x) ∧ (commit1 st t h x).1 = ⟨st.l ++ x, h, st.b ++ put h x, st.s⟩ := by
  unfold commit1 at hc ⊢
  split at hc
  · rename_i he
    obtain ⟨a, b, c, d, e, f, g⟩ := extend_good he
    refine ⟨a, b, c, d, e, f, ?_⟩
    rw [g, if_pos rfl]
  · rename_i he
    exact absurd hc he
theorem commit1_of {st : Sto} {t : List Hd} {x : List ByteArray} (hk : logOk st.l st.h = true) (hx : 1 ≤ x.length) (hl : (st.l ++ x).length ≤ 200) (hs : signed t (headOf (st.l ++ x)) = true) :
    commit1 st t (headOf (st.l ++ x)) x = (⟨st.l ++ x, headOf (st.l ++ x), st.b ++ put (headOf (st.l ++ x)) x, st.s⟩, 0) := by
  unfold commit1
  rw [extend_of hk hx hl hs, if_pos rfl]
/-- what is got stays got with more behind -/
theorem get_more {xs r : List Int} {a : Nat} {h : Hd} {x : List ByteArray} {p : Int} (hb : Byt xs) (hg : getC xs (a : Int) = (h, x, p, true)) : getC (xs ++ r) (a : Int) = (h, x, p, true) := by
  obtain ⟨q, rfl, hq, hqx, hk, h1, h2, hbl, hd⟩ := put_get hb hg
  have e : xs ++ r = xs.take a ++ (put h x ++ (xs.drop q ++ r)) := by
    rw [← List.append_assoc (put h x), ← hd, ← List.append_assoc, List.take_append_drop]
  have ea : (xs.take a).length = a := by rw [List.length_take]; omega
  have g := get_put (xs.take a) (xs.drop q ++ r) hk h1 h2 hbl
  rw [← e, ea, ← hq] at g
  exact g
/-- commits that make a log, and one more behind them -/
theorem replay_app {h : Hd} {x L : List ByteArray} {H : Hd} (xs : List Int) (hb : Byt xs) (hk : okH h = true) (h1 : 1 ≤ x.length) (hl : (L ++ x).length ≤ 200) (hbl : (body h x).length ≤ 1000000000) (he : h = headOf (L ++ x)) :
    ∀ (f g a : Nat) (l : List ByteArray) (hd : Hd), a ≤ xs.length → xs.length - a ≤ f → (xs ++ put h x).length - a ≤ g → replayF f xs a l hd = (L, H, true) → replayF g (xs ++ put h x) a l hd = (L ++ x, h, true) := by
  have hp := put_pos h x
  have hlx : x.length ≤ 200 := by rw [List.length_append] at hl; omega
  have last : ∀ (g : Nat) (hd : Hd), 1 ≤ g → (xs ++ put h x).length - xs.length ≤ g → replayF g (xs ++ put h x) xs.length L hd = (L ++ x, h, true) := by
    intro g hd hg1 hg
    obtain ⟨g, rfl⟩ : ∃ k, g = k + 1 := ⟨g - 1, by omega⟩
    have gp := get_put xs [] hk h1 hlx hbl
    rw [List.append_nil] at gp
    rw [replayF, if_pos (by rw [List.length_append]; omega), gp]
    simp only [Int.toNat_natCast]
    rw [List.length_append] at hl
    rw [if_pos ⟨trivial, hl⟩, if_pos ((eqH_iff _ _).2 he)]
    cases g with
    | zero => rfl
    | succ g => rw [replayF, if_neg (by rw [List.length_append]; omega)]
  intro f
  induction f with
  | zero =>
    intro g a l hd ha hf hg hr
    have : a = xs.length := by omega
    subst this
    rw [replayF] at hr
    simp only [Prod.mk.injEq] at hr
    obtain ⟨rfl, rfl, _⟩ := hr
    exact last g hd (by rw [List.length_append] at hg; omega) hg
  | succ f ih =>
    intro g a l hd ha hf hg hr
    by_cases hlt : a < xs.length
    · obtain ⟨h', x', p, ok, hgc⟩ : ∃ h' x' p ok, getC xs (a : Int) = (h', x', p, ok) := ⟨_, _, _, _, rfl⟩
      rw [replayF, if_pos hlt, hgc] at hr
      simp only at hr
      split at hr
      · rename_i hc
        obtain ⟨rfl, hc⟩ := hc
        split at hr
        · rename_i hee
          obtain ⟨q, rfl, hq, hqx, _⟩ := put_get hb hgc
          have hp' := put_pos h' x'
          obtain ⟨g, rfl⟩ : ∃ k, g = k + 1 := ⟨g - 1, by rw [List.length_append] at hg; omega⟩
          rw [replayF, if_pos (by rw [List.length_append]; omega), get_more hb hgc]
          simp only
          rw [if_pos ⟨trivial, hc⟩, if_pos hee]
          exact ih g _ _ _ (by simp only [Int.toNat_natCast]; omega) (by simp only [Int.toNat_natCast]; omega) (by simp only [Int.toNat_natCast]; omega) hr
        · simp at hr
      · simp at hr
    · have : a = xs.length := by omega
      subst this
      rw [replayF, if_neg hlt] at hr
      simp only [Prod.mk.injEq] at hr
      obtain ⟨rfl, rfl, _⟩ := hr
      exact last g hd (by rw [List.length_append] at hg; omega) hg
/-- a store that commits made -/
def Good (st : Sto) : Prop := logOk st.l st.h = true ∧ replay st.b = (st.l, st.h, true) ∧ Byt st.b
theorem good_new : Good new12 := ⟨logOk_of (l := []) (by simp), rfl, fun x hx => by cases hx⟩
theorem good_commit {st : Sto} {t : List Hd} {h : Hd} {x : List ByteArray} (hg : Good st) (hc : (commit1 st t h x).2 = 0) (hbl : (body h x).length ≤ 1000000000) : Good (commit1 st t h x).1 := by
  obtain ⟨a, b, c, d, e, f, g⟩ := commit1_good hc
  rw [g]
  refine ⟨by rw [f]; exact logOk_of e, ?_, hg.2.2.app (put_byt h x)⟩
  exact replay_app st.b hg.2.2 b d e hbl f _ _ _ _ _ (Nat.zero_le _) (by omega) (Nat.le_refl _) hg.2.1
theorem good_ok {st : Sto} (hg : Good st) (hl : st.b.length ≤ 60000) (hs : 0 ≤ st.s ∧ st.s ≤ (st.b.length : Int)) : storeOk st = true := by
  unfold storeOk
  rw [hg.1, hg.2.1]
  simp [hl, hs]
theorem ok_parts {st : Sto} (h : storeOk st = true) : logOk st.l st.h = true ∧ st.b.length ≤ 60000 ∧ 0 ≤ st.s ∧ st.s ≤ (st.b.length : Int) ∧ (replay st.b).2.2 = true ∧ (replay st.b).1 = st.l := by
  unfold storeOk at h
  simp only [Bool.and_eq_true, decide_eq_true_eq] at h
  obtain ⟨⟨⟨⟨a, b⟩, c⟩, d⟩, e⟩ := h
  exact ⟨a, b, c.1, c.2, d, e⟩
/-- the head that a replay has is that of its texts -/
theorem replay_head (xs : List Int) : ∀ (f a : Nat) (l : List ByteArray) (hd : Hd), hd = headOf l → (replayF f xs a l hd).2.2 = true → (replayF f xs a l hd).2.1 = headOf (replayF f xs a l hd).1 := by
  intro f
  induction f with
  | zero => intro a l hd h _; exact h
  | succ f ih =>
    intro a l hd h hr
    rw [replayF] at hr ⊢
    split
    · rename_i h1
      rw [if_pos h1] at hr
      split
      · rename_i h2
        rw [if_pos h2] at hr
        split
        · rename_i h3
          rw [if_pos h3] at hr
          exact ih _ _ _ ((eqH_iff _ _).1 h3) hr
        · rename_i h3
          rw [if_neg h3] at hr
          cases hr
      · rename_i h2
        rw [if_neg h2] at hr
        cases hr
    · exact h
theorem ok_good {st : Sto} (hb : Byt st.b) (h : storeOk st = true) : Good st := by
  obtain ⟨a, b, c, d, e, f⟩ := ok_parts h
  refine ⟨a, ?_, hb⟩
  have hh := replay_head st.b st.b.length 0 [] (headOf []) rfl e
  have h2 : (replay st.b).2.1 = headOf (replay st.b).1 := hh
  rw [f] at h2
  have h3 := (logOk_yes a).2
  exact Prod.ext f (Prod.ext (by rw [h3]; exact h2) e)
/-- a commit that is good leaves a store right -/
theorem commit_ok {st : Sto} {t : List Hd} {h : Hd} {x : List ByteArray} (hb : Byt st.b) (hc : (commit st t h x).2 = 0) : storeOk (commit st t h x).1 = true ∧ storeOk st = true ∧ st.b.length + (put h x).length ≤ 60000 ∧ commit st t h x = commit1 st t h x ∧ (commit1 st t h x).2 = 0 := by
  unfold commit at hc ⊢
  split at hc
  · rename_i hk
    rw [if_pos hk]
    have hbl : (body h x).length ≤ 1000000000 := by
      have : (put h x).length = (Puts.num ((body h x).length : Int)).length + (body h x).length + 4 := by unfold put; simp only [List.length_append, sum4_len]; omega
      omega
    have hg := good_commit (ok_good hb hk.1) hc hbl
    obtain ⟨_, _, c, d, _, _⟩ := ok_parts hk.1
    obtain ⟨_, _, _, _, _, _, g⟩ := commit1_good hc
    refine ⟨good_ok hg (by rw [g]; simp only [List.length_append]; exact hk.2) ?_, hk.1, hk.2, rfl, hc⟩
    rw [g]
    simp only [List.length_append]
    omega
  · simp at hc

/-- what is opened has the beginning of what the commits make -/
theorem open_replay {L : List ByteArray} {H : Hd} (t : List Hd) (xs : List Int) : ∀ (f g a : Nat) (st : Sto) (hd : Hd) (n : Nat), replayF f xs a st.l hd = (L, H, true) → xs.length - a ≤ f → Byt xs → a ≤ xs.length → (openF g t xs a st n).1.l <+: L := by
  intro f
  induction f with
  | zero =>
    intro g a st hd n hr hf hb ha
    rw [replayF] at hr
    simp only [Prod.mk.injEq] at hr
    obtain ⟨rfl, _, _⟩ := hr
    cases g with
    | zero => exact List.prefix_refl _
    | succ g => rw [openF, if_neg (by omega)]; exact List.prefix_refl _
  | succ f ih =>
    intro g a st hd n hr hf hb ha
    have hpre : st.l <+: L := by
      have : ∀ (f a : Nat) (l : List ByteArray) (hd : Hd), l <+: (replayF f xs a l hd).1 := by
        intro f
        induction f with
        | zero => intro a l hd; exact List.prefix_refl _
        | succ f ih2 =>
          intro a l hd
          rw [replayF]
          split
          · split
            · split
              · exact (List.prefix_append _ _).trans (ih2 _ _ _)
              · exact List.prefix_append _ _
            · exact List.prefix_refl _
          · exact List.prefix_refl _
      have := this (f + 1) a st.l hd
      rw [hr] at this
      exact this
    cases g with
    | zero => exact hpre
    | succ g =>
      rw [openF]
      split
      · rename_i hlt
        split
        · rename_i hc
          obtain ⟨h', x', p, ok, hgc⟩ : ∃ h' x' p ok, getC xs (a : Int) = (h', x', p, ok) := ⟨_, _, _, _, rfl⟩
          rw [hgc] at hc ⊢
          simp only at hc ⊢
          obtain ⟨rfl, hc⟩ := hc
          obtain ⟨_, _, _, d, e, he, hs⟩ := commit1_good hc
          obtain ⟨q, rfl, hq, hqx, _⟩ := put_get hb hgc
          have hp' := put_pos h' x'
          rw [replayF, if_pos hlt, hgc] at hr
          simp only at hr
          rw [List.length_append] at e
          rw [if_pos ⟨trivial, e⟩, if_pos ((eqH_iff _ _).2 he)] at hr
          rw [hs]
          simp only [Int.toNat_natCast] at hr ⊢
          exact ih g q ⟨st.l ++ x', h', st.b ++ put h' x', st.s⟩ h' (n + 1) hr (by omega) hb hqx
        · exact hpre
      · exact hpre
/-- the texts only grow -/
theorem open_grows (t : List Hd) (xs : List Int) : ∀ (g a : Nat) (st : Sto) (n : Nat), st.l <+: (openF g t xs a st n).1.l ∧ n ≤ (openF g t xs a st n).2 := by
  intro g
  induction g with
  | zero => intro a st n; exact ⟨List.prefix_refl _, Nat.le_refl _⟩
  | succ g ih =>
    intro a st n
    rw [openF]
    split
    · split
      · rename_i hc
        obtain ⟨_, _, _, d, e, he, hs⟩ := commit1_good hc.2
        have h := ih (getC xs (a : Int)).2.2.1.toNat (commit1 st t (getC xs (a : Int)).1 (getC xs (a : Int)).2.1).1 (n + 1)
        refine ⟨List.IsPrefix.trans ?_ h.1, by omega⟩
        rw [hs]
        exact List.prefix_append _ _
      · exact ⟨List.prefix_refl _, Nat.le_refl _⟩
    · exact ⟨List.prefix_refl _, Nat.le_refl _⟩
/-- what is opened of a beginning is the beginning of what is opened of all -/
theorem open_front (t : List Hd) (xs : List Int) (k : Nat) (hb : Byt xs) : ∀ (g f a : Nat) (st : Sto) (n : Nat), a ≤ (xs.take k).length → xs.length - a ≤ f → (openF g t (xs.take k) a st n).1.l <+: (openF f t xs a st n).1.l := by
  intro g
  induction g with
  | zero => intro f a st n _ _; exact (open_grows t xs f a st n).1
  | succ g ih =>
    intro f a st n ha hf
    rw [openF]
    split
    · rename_i hlt
      split
      · rename_i hc
        obtain ⟨h', x', p, ok, hgc⟩ : ∃ h' x' p ok, getC (xs.take k) (a : Int) = (h', x', p, ok) := ⟨_, _, _, _, rfl⟩
        rw [hgc] at hc ⊢
        simp only at hc ⊢
        obtain ⟨rfl, hc⟩ := hc
        have hb2 : Byt (xs.take k) := fun y hy => hb y (List.mem_of_mem_take hy)
        obtain ⟨q, rfl, hq, hqx, _⟩ := put_get hb2 hgc
        have hp' := put_pos h' x'
        have hlt2 : a < xs.length := by rw [List.length_take] at hlt; omega
        have hgc2 := get_front hb hgc
        obtain ⟨f, rfl⟩ : ∃ j, f = j + 1 := ⟨f - 1, by omega⟩
        conv => rhs; rw [openF, if_pos hlt2, hgc2]
        simp only
        rw [if_pos ⟨trivial, hc⟩]
        simp only [Int.toNat_natCast]
        exact ih f q _ _ hqx (by omega)
      · exact (open_grows t xs f a st n).1
    · exact (open_grows t xs f a st n).1
/-- what is opened is good, and no longer than the bytes -/
theorem open_good (t : List Hd) (xs : List Int) (hb : Byt xs) : ∀ (g a : Nat) (st : Sto) (n : Nat), Good st → st.b.length ≤ a → a ≤ xs.length → Good (openF g t xs a st n).1 ∧ (openF g t xs a st n).1.b.length ≤ xs.length ∧ (openF g t xs a st n).1.s = st.s := by
  intro g
  induction g with
  | zero => intro a st n hg hl ha; exact ⟨hg, Nat.le_trans hl ha, rfl⟩
  | succ g ih =>
    intro a st n hg hl ha
    rw [openF]
    split
    · rename_i hlt
      split
      · rename_i hc
        obtain ⟨h', x', p, ok, hgc⟩ : ∃ h' x' p ok, getC xs (a : Int) = (h', x', p, ok) := ⟨_, _, _, _, rfl⟩
        rw [hgc] at hc ⊢
        simp only at hc ⊢
        obtain ⟨rfl, hc⟩ := hc
        obtain ⟨q, rfl, hq, hqx, _, _, _, hbl, _⟩ := put_get hb hgc
        obtain ⟨_, _, _, _, _, _, hs⟩ := commit1_good hc
        have h := ih q (commit1 st t h' x').1 (n + 1) (good_commit hg hc hbl) (by rw [hs]; simp only [List.length_append]; omega) hqx
        simp only [Int.toNat_natCast]
        refine ⟨h.1, h.2.1, ?_⟩
        rw [h.2.2, hs]
      · exact ⟨hg, by simp only; omega, rfl⟩
    · exact ⟨hg, by simp only; omega, rfl⟩
theorem openS_ok (t : List Hd) {xs : List Int} (hb : Byt xs) : storeOk (openS t xs).1 = true ∧ (openS t xs).1.s = ((openS t xs).1.b.length : Int) := by
  have hb2 : Byt (xs.take 60000) := fun y hy => hb y (List.mem_of_mem_take hy)
  obtain ⟨h1, h2, h3⟩ := open_good t (xs.take 60000) hb2 (xs.take 60000).length 0 new12 0 good_new (Nat.le_refl _) (Nat.zero_le _)
  refine ⟨?_, rfl⟩
  have h60 : (xs.take 60000).length ≤ 60000 := by rw [List.length_take]; omega
  exact good_ok (st := ⟨_, _, _, _⟩) ⟨h1.1, h1.2.1, h1.2.2⟩ (Nat.le_trans h2 h60) ⟨Int.natCast_nonneg _, Int.le_refl _⟩

/-- a store that was made by commits that the table signs: opened of its bytes it comes back -/
def Made (t : List Hd) (st : Sto) : Prop := Good st ∧ ∀ g, st.b.length ≤ g → (openF g t st.b 0 new12 0).1.l = st.l ∧ (openF g t st.b 0 new12 0).1.h = st.h ∧ (openF g t st.b 0 new12 0).1.b = st.b
theorem made_new (t : List Hd) : Made t new12 := by
  refine ⟨good_new, fun g _ => ?_⟩
  cases g with
  | zero => exact ⟨rfl, rfl, rfl⟩
  | succ g => exact ⟨rfl, rfl, rfl⟩
/-- opened with one more commit behind -/
theorem open_app {h : Hd} {x : List ByteArray} (t : List Hd) (xs : List Int) (hb : Byt xs) (S : Sto) (hk : okH h = true) (h1 : 1 ≤ x.length) (hlx : x.length ≤ 200) (hbl : (body h x).length ≤ 1000000000) (hS : S.b = xs) (hSl : ∀ T : Sto, T.l = S.l → T.h = S.h → (commit1 T t h x).2 = 0) :
    ∀ (f g a : Nat) (st : Sto) (n m : Nat), a ≤ xs.length → st.b = xs.take a → xs.length - a ≤ f → (xs ++ put h x).length - a ≤ g →
      (openF f t xs a st n).1.l = S.l → (openF f t xs a st n).1.h = S.h → (openF f t xs a st n).1.b = S.b → (openF g t (xs ++ put h x) a st m).1.l = S.l ++ x ∧ (openF g t (xs ++ put h x) a st m).1.h = h ∧ (openF g t (xs ++ put h x) a st m).1.b = S.b ++ put h x := by
  have hp := put_pos h x
  have last : ∀ (g : Nat) (st : Sto) (m : Nat), st.l = S.l → st.h = S.h → st.b = S.b → 1 ≤ g → (openF g t (xs ++ put h x) xs.length st m).1.l = S.l ++ x ∧ (openF g t (xs ++ put h x) xs.length st m).1.h = h ∧ (openF g t (xs ++ put h x) xs.length st m).1.b = S.b ++ put h x := by
    intro g st m e1 e2 e3 hg
    obtain ⟨g, rfl⟩ : ∃ k, g = k + 1 := ⟨g - 1, by omega⟩
    have gp := get_put xs [] hk h1 hlx hbl
    rw [List.append_nil] at gp
    have hc := hSl st e1 e2
    obtain ⟨_, _, _, _, _, _, hs⟩ := commit1_good hc
    rw [openF, if_pos (by rw [List.length_append]; omega), gp]
    simp only [Int.toNat_natCast]
    rw [if_pos ⟨trivial, hc⟩, hs]
    cases g with
    | zero => exact ⟨by rw [openF, e1], rfl, by rw [openF, e3]⟩
    | succ g =>
      rw [openF, if_neg (by rw [List.length_append]; omega)]
      exact ⟨by rw [e1], rfl, by rw [e3]⟩
  intro f
  induction f with
  | zero =>
    intro g a st n m ha hst hf hg e1 e2 e3
    have : a = xs.length := by omega
    subst this
    rw [openF] at e1 e2 e3
    exact last g st m e1 e2 e3 (by rw [List.length_append] at hg; omega)
  | succ f ih =>
    intro g a st n m ha hst hf hg e1 e2 e3
    by_cases hlt : a < xs.length
    · obtain ⟨h', x', p, ok, hgc⟩ : ∃ h' x' p ok, getC xs (a : Int) = (h', x', p, ok) := ⟨_, _, _, _, rfl⟩
      rw [openF, if_pos hlt, hgc] at e1 e2 e3
      simp only at e1 e2 e3
      by_cases hc : ok = true ∧ (commit1 st t h' x').2 = 0
      · rw [if_pos hc] at e1 e2 e3
        obtain ⟨rfl, hc⟩ := hc
        obtain ⟨q, rfl, hq, hqx, _, _, _, _, hd⟩ := put_get hb hgc
        have hp' := put_pos h' x'
        obtain ⟨_, _, _, _, _, _, hs⟩ := commit1_good hc
        obtain ⟨g, rfl⟩ : ∃ k, g = k + 1 := ⟨g - 1, by rw [List.length_append] at hg; omega⟩
        have hgm := get_more (r := put h x) hb hgc
        have hst2 : (commit1 st t h' x').1.b = xs.take q := by
          rw [hs]
          simp only
          rw [hst, hq]
          have e5 : xs.take (a + (put h' x').length) = xs.take a ++ (xs.drop a).take (put h' x').length := List.take_add ..
          rw [e5, hd, List.take_append_of_le_length (Nat.le_refl _), List.take_of_length_le (Nat.le_refl _)]
        have r := ih g q (commit1 st t h' x').1 (n + 1) (m + 1) hqx hst2 (by omega) (by omega) e1 e2 e3
        rw [openF, if_pos (by rw [List.length_append]; omega), hgm]
        simp only
        rw [if_pos ⟨trivial, hc⟩]
        exact r
      · rw [if_neg hc] at e3
        simp only at e3
        rw [hst, hS] at e3
        have := congrArg List.length e3
        rw [List.length_take] at this
        omega
    · have : a = xs.length := by omega
      subst this
      rw [openF, if_neg hlt] at e1 e2 e3
      exact last g st m e1 e2 e3 (by rw [List.length_append] at hg; omega)
theorem made_commit {t : List Hd} {st : Sto} {h : Hd} {x : List ByteArray} (hm : Made t st) (hc : (commit1 st t h x).2 = 0) (hbl : (body h x).length ≤ 1000000000) : Made t (commit1 st t h x).1 := by
  obtain ⟨a, b, c, d, e, f, g⟩ := commit1_good hc
  refine ⟨good_commit hm.1 hc hbl, fun k hk => ?_⟩
  rw [g] at hk ⊢
  simp only at hk ⊢
  have hlx : x.length ≤ 200 := by rw [List.length_append] at e; omega
  obtain ⟨e1, e2, e3⟩ := hm.2 st.b.length (Nat.le_refl _)
  have hSl : ∀ T : Sto, T.l = st.l → T.h = st.h → (commit1 T t h x).2 = 0 := by
    intro T e4 e5
    rw [f, ← e4]
    rw [commit1_of (by rw [e4, e5]; exact a) d (by rw [e4]; exact e) (by rw [e4, ← f]; exact c)]
  exact open_app t st.b hm.1.2.2 st b d hlx hbl rfl hSl st.b.length k 0 new12 0 0 (Nat.zero_le _) rfl (by omega) (by omega) e1 e2 e3
theorem made_sure {t : List Hd} {st : Sto} (hm : Made t st) (s : Int) : Made t ⟨st.l, st.h, st.b, s⟩ := ⟨⟨hm.1.1, hm.1.2.1, hm.1.2.2⟩, hm.2⟩

end Go.Proofs.YtfpaichdkddglabDoor.Sr

/- Contracts of GetText, the program's and the specification's: both answer 'getText' of the bytes, and turn nothing. -/
namespace Go.Proofs.YtfpaichdkddglabDoor.GetT
open Go.RowKit Go.Proofs.YtfpaichdkddglabDoor.Mem Go.Proofs.YtfpaichdkddglabDoor.Plain
set_option linter.unusedVariables false

theorem conv_none (ao : Option Addr) (c : Nat) (w : World) : (convert 27 9 (.slice ao 0 c)).run Tryd.prog w = .ok (.string ⟨#[]⟩) w := by
  cases ao with
  | none => rw [run_convert_bytes_string w 27 9 5 none 0 c Tryd.underlying27 Tryd.underlying5 Tryd.underlying9]; rfl
  | some a => exact run_convert_bytes_back w 27 9 5 a c [] Tryd.underlying27 Tryd.underlying5 Tryd.underlying9 (fun j hj => by simp at hj)

theorem conv_some {w : World} {xs : List Int} {b off p n c : Nat} (hb : Byt xs) (hcell : ∀ j, j < xs.length → w.cell? ⟨b, off + j, none⟩ = (bs xs)[j]?) (hn : p + n ≤ xs.length) :
    (convert 27 9 (.slice (some ⟨b, off + p, none⟩) n c)).run Tryd.prog w = .ok (.string (txt ((xs.drop p).take n))) w := by
  have hl : (u8s ((xs.drop p).take n)).length = n := by rw [u8s_len]; simp; omega
  have h := run_convert_bytes_back (P := Tryd.prog) w 27 9 5 ⟨b, off + p, none⟩ c (u8s ((xs.drop p).take n)) Tryd.underlying27 Tryd.underlying5 Tryd.underlying9 (fun j hj => by
    rw [hl] at hj
    rw [Addr.add_lit, Nat.add_assoc, hcell (p + j) (by omega), bs_get]
    have hx : xs[p + j]? = some (xs[p + j]'(by omega)) := by simp
    have hy := hb.at hx
    rw [hx]
    simp only [u8s, List.getElem_map, List.getElem_take, List.getElem_drop, Option.map_some]
    rw [u8_back hy])
  rw [hl] at h
  exact h

theorem rets {s s' : ByteArray} {b b' : Int} {c c' : Bool} (h1 : s = s') (h2 : b = b') (h3 : c = c') : Ending.returned (.tuple #[.string s, .int .i64 b, .bool c]) = .returned (.tuple #[.string s', .int .i64 b', .bool c']) := by rw [h1, h2, h3]

set_option maxRecDepth 1000000 in
set_option maxHeartbeats 1000000 in
theorem text_impl (w : World) (v : Value) (xs : List Int) (at_ : Int) (h : Sl w v (bs xs)) (hb : Byt xs) (hx : xs.length ≤ 140737488355328) (hlo : -9223372036854775808 ≤ at_) (hhi : at_ ≤ 9223372036854775807) :
    Calls Tryd.prog 79 #[v, .int .i64 at_] w fun e w' => e = .returned (.tuple #[.string (getText xs at_).1, .int .i64 (getText xs at_).2.1, .bool (getText xs at_).2.2]) ∧ w' = w := by
  have hget := Gets.get_impl w v xs at_ h hb hx hlo hhi
  obtain ⟨n, p, ok, hr⟩ : ∃ n p ok, getNum xs at_ = (n, p, ok) := ⟨_, _, _, rfl⟩
  rw [hr] at hget
  have HR : Hid (getNum xs at_ = (n, p, ok)) := hr
  clear hr
  obtain ⟨ao, cap, rfl, hc1, hnone, hr1⟩ := h
  rw [bs_len] at hr1 hc1 hget
  rw [bs_len]
  cases ok with
  | false =>
    have HG : Hid (getText xs at_ = (⟨#[]⟩, 0, false)) := getText_no HR.out (.inl rfl)
    go_enter Tryd.func79, Tryd.ntmps79
    go_wp2_with (go_at_call 76; refine hget.mono ?_; rintro e w' ⟨rfl, rfl⟩)
    go_ret3
    exact ⟨by rw [HG.out]; rfl, rfl⟩
  | true =>
    have hbd := getNum_bd HR.out
    obtain ⟨n, rfl⟩ := Int.eq_ofNat_of_zero_le hbd.1
    obtain ⟨p, rfl⟩ := Int.eq_ofNat_of_zero_le (show 0 ≤ p by omega)
    by_cases hbig : (xs.length : Int) - (p : Int) < (n : Int)
    · have HG : Hid (getText xs at_ = (⟨#[]⟩, 0, false)) := getText_no HR.out (.inr hbig)
      go_enter Tryd.func79, Tryd.ntmps79
      go_wp2_with (go_at_call 76; refine hget.mono ?_; rintro e w' ⟨rfl, rfl⟩)
      go_ret3
      exact ⟨by rw [HG.out]; rfl, rfl⟩
    · have HG : Hid (getText xs at_ = (txt ((xs.drop p).take n), (p : Int) + (n : Int), true)) := getText_yes HR.out (by omega)
      obtain ⟨b, off, rfl, hcell⟩ := hr1 (by omega)
      by_cases h0 : n = 0
      · subst h0
        have hconv : ∀ ao c w, (convert 27 9 (.slice ao 0 c)).run Tryd.prog w = .ok (.string ⟨#[]⟩) w := conv_none
        have HT : Hid (txt ((xs.drop p).take 0) = ⟨#[]⟩) := rfl
        clear hr1 hcell
        go_enter Tryd.func79, Tryd.ntmps79
        go_wp2_with (go_at_call 76; refine hget.mono ?_; rintro e w' ⟨rfl, rfl⟩)
        all_goals go_ret3
        all_goals exact ⟨by rw [HG.out]; exact rets rfl (by dsimp only; omega) rfl, rfl⟩
      · have hconv := conv_some (c := cap - p) hb hcell (show p + n ≤ xs.length by omega)
        clear hr1 hcell
        go_enter Tryd.func79, Tryd.ntmps79
        go_wp2_with (go_at_call 76; refine hget.mono ?_; rintro e w' ⟨rfl, rfl⟩)
        all_goals go_ret3
        all_goals exact ⟨by rw [HG.out]; exact rets rfl (by dsimp only) rfl, rfl⟩

set_option maxRecDepth 1000000 in
set_option maxHeartbeats 1000000 in
theorem text_spec (w : World) (v : Value) (xs : List Int) (at_ : Int) (h : Sl w v (bs xs)) (hb : Byt xs) (hx : xs.length ≤ 140737488355328) (hlo : -9223372036854775808 ≤ at_) (hhi : at_ ≤ 9223372036854775807) :
    Calls Tryd.prog 51 #[v, .int .i64 at_] w fun e w' => e = .returned (.tuple #[.string (getText xs at_).1, .int .i64 (getText xs at_).2.1, .bool (getText xs at_).2.2]) ∧ w' = w := by
  have hget := Gets.get_spec w v xs at_ h hb hx hlo hhi
  obtain ⟨n, p, ok, hr⟩ : ∃ n p ok, getNum xs at_ = (n, p, ok) := ⟨_, _, _, rfl⟩
  rw [hr] at hget
  have HR : Hid (getNum xs at_ = (n, p, ok)) := hr
  clear hr
  obtain ⟨ao, cap, rfl, hc1, hnone, hr1⟩ := h
  rw [bs_len] at hr1 hc1 hget
  rw [bs_len]
  cases ok with
  | false =>
    have HG : Hid (getText xs at_ = (⟨#[]⟩, 0, false)) := getText_no HR.out (.inl rfl)
    go_enter Tryd.func51, Tryd.ntmps51
    go_wp2_with (go_at_call 50; refine hget.mono ?_; rintro e w' ⟨rfl, rfl⟩)
    go_ret3
    exact ⟨by rw [HG.out]; rfl, rfl⟩
  | true =>
    have hbd := getNum_bd HR.out
    obtain ⟨n, rfl⟩ := Int.eq_ofNat_of_zero_le hbd.1
    obtain ⟨p, rfl⟩ := Int.eq_ofNat_of_zero_le (show 0 ≤ p by omega)
    by_cases hbig : (xs.length : Int) - (p : Int) < (n : Int)
    · have HG : Hid (getText xs at_ = (⟨#[]⟩, 0, false)) := getText_no HR.out (.inr hbig)
      go_enter Tryd.func51, Tryd.ntmps51
      go_wp2_with (go_at_call 50; refine hget.mono ?_; rintro e w' ⟨rfl, rfl⟩)
      go_ret3
      exact ⟨by rw [HG.out]; rfl, rfl⟩
    · have HG : Hid (getText xs at_ = (txt ((xs.drop p).take n), (p : Int) + (n : Int), true)) := getText_yes HR.out (by omega)
      obtain ⟨b, off, rfl, hcell⟩ := hr1 (by omega)
      by_cases h0 : n = 0
      · subst h0
        have hconv : ∀ ao c w, (convert 27 9 (.slice ao 0 c)).run Tryd.prog w = .ok (.string ⟨#[]⟩) w := conv_none
        have HT : Hid (txt ((xs.drop p).take 0) = ⟨#[]⟩) := rfl
        clear hr1 hcell
        go_enter Tryd.func51, Tryd.ntmps51
        go_wp2_with (go_at_call 50; refine hget.mono ?_; rintro e w' ⟨rfl, rfl⟩)
        all_goals go_ret3
        all_goals exact ⟨by rw [HG.out]; exact rets rfl (by dsimp only; omega) rfl, rfl⟩
      · have hconv := conv_some (c := cap - p) hb hcell (show p + n ≤ xs.length by omega)
        clear hr1 hcell
        go_enter Tryd.func51, Tryd.ntmps51
        go_wp2_with (go_at_call 50; refine hget.mono ?_; rintro e w' ⟨rfl, rfl⟩)
        all_goals go_ret3
        all_goals exact ⟨by rw [HG.out]; exact rets rfl (by dsimp only) rfl, rfl⟩

end Go.Proofs.YtfpaichdkddglabDoor.GetT

/- Contracts of GetTexts, the program's and the specification's: both answer 'getTexts' of the bytes; the list lies in new memory; nothing old is turned. -/
namespace Go.Proofs.YtfpaichdkddglabDoor.GetTs
open Go.RowKit Go.Proofs.YtfpaichdkddglabDoor.Mem Go.Proofs.YtfpaichdkddglabDoor.Plain Go.Proofs.YtfpaichdkddglabDoor.Laws
set_option linter.unusedVariables false

theorem one_str (s : ByteArray) : ∀ u ∈ [Value.string s], u.oneCell' = true := by
  intro u hu
  rw [List.mem_singleton] at hu
  rw [hu]
  rfl

theorem Own.emptyS (w : World) (lo : Nat) (h : lo ≤ w.heap.size) : Own (w.alloc (.cells #[] 9)) lo (w.alloc (.cells #[] 9)).heap.size 9 (.slice (some ⟨w.heap.size, 0, none⟩) 0 0) (ss []) :=
  Own.of (World.ownsRow_lit w #[] 0 h (Nat.zero_le _) rfl)
theorem Own.nilS (w : World) (lo hi : Nat) : Own w lo hi 9 (.slice none 0 0) (ss []) :=
  ⟨World.ownsRow_nil w lo 9 1, fun g hg => by simp [Value.ownBlock] at hg⟩

/-- What GetTexts answers, and what of the world it leaves. -/
def Done (xs : List Int) (at_ : Int) (w : World) (e : Ending) (w' : World) : Prop :=
  ∃ v' : Value, e = .returned (.tuple #[v', .int .i64 (getTexts xs at_).2.1, .bool (getTexts xs at_).2.2]) ∧ Own w' w.heap.size w'.heap.size 9 v' (ss (getTexts xs at_).1) ∧ Below w.heap.size w w'

theorem done_no {xs : List Int} {at_ : Int} {w w' : World} {v' : Value} (hg : getTexts xs at_ = ([], 0, false)) (ho : Own w' w.heap.size w'.heap.size 9 v' (ss [])) (hb : Below w.heap.size w w') :
    Done xs at_ w (.returned (.tuple #[v', .int .i64 0, .bool false])) w' := by
  unfold Done
  rw [hg]
  exact ⟨v', rfl, ho, hb⟩
theorem done_yes {xs : List Int} {at_ q : Int} {l : List ByteArray} {w w' : World} {v' : Value} (hg : getTexts xs at_ = (l, q, true)) (ho : Own w' w.heap.size w'.heap.size 9 v' (ss l)) (hb : Below w.heap.size w w') :
    Done xs at_ w (.returned (.tuple #[v', .int .i64 q, .bool true])) w' := by
  unfold Done
  rw [hg]
  exact ⟨v', rfl, ho, hb⟩

set_option maxRecDepth 1000000 in
set_option maxHeartbeats 2000000 in
theorem texts_impl (w : World) (v : Value) (xs : List Int) (at_ : Int) (h : Sl w v (bs xs)) (hb : Byt xs) (hx : xs.length ≤ 140737488355328) (hlo : -9223372036854775808 ≤ at_) (hhi : at_ ≤ 9223372036854775807) :
    Calls Tryd.prog 80 #[v, .int .i64 at_] w fun e w' => Done xs at_ w e w' := by
  obtain ⟨i0, hi, hz0, hz1, hz2⟩ := info_parts Strs.info9
  have hget := Gets.get_impl w v xs at_ h hb hx hlo hhi
  obtain ⟨n, p, ok, hr⟩ : ∃ n p ok, getNum xs at_ = (n, p, ok) := ⟨_, _, _, rfl⟩
  rw [hr] at hget
  have HR : Hid (getNum xs at_ = (n, p, ok)) := hr
  clear hr
  cases ok with
  | false =>
    have HG : Hid (getTexts xs at_ = ([], 0, false)) := getTexts_no HR.out (.inl rfl)
    go_enter Tryd.func80, Tryd.ntmps80
    go_wp2_with (go_at_call 76; refine hget.mono ?_; rintro e w' ⟨rfl, rfl⟩)
    go_ret3
    exact done_no HG.out (Own.nilS _ _ _) (Below.refl _ _)
  | true =>
    have hbd := getNum_bd HR.out
    obtain ⟨n, rfl⟩ := Int.eq_ofNat_of_zero_le hbd.1
    by_cases hbig : (200 : Int) < (n : Int)
    · have HG : Hid (getTexts xs at_ = ([], 0, false)) := getTexts_no HR.out (.inr hbig)
      go_enter Tryd.func80, Tryd.ntmps80
      go_wp2_with (go_at_call 76; refine hget.mono ?_; rintro e w' ⟨rfl, rfl⟩)
      go_ret3
      exact done_no HG.out (Own.nilS _ _ _) (Below.refl _ _)
    · have hn2 : n ≤ 200 := by omega
      have hlater : ∀ w', Below w.heap.size w w' → Sl w' v (bs xs) := fun w' hb => h.later hb
      go_enter Tryd.func80, Tryd.ntmps80
      go_wp2_with (first | (go_at_call 76; refine hget.mono ?_; rintro e wy ⟨rfl, hwy⟩; have hwy := hwy.symm; subst hwy) | (at_make; refine wpList_make_own _ rfl _ _ 22 rfl w.heap.size 9 i0 (.string ⟨#[]⟩) 1 Tryd.underlying22 hi hz0 hz1 _ _ _ n rfl rfl rfl (by rw [hz2]; omega) (by unfold maxLen; omega) (Nat.le_refl _) ?_))
      intro w1 hown hgrow
      have hbel : Below w.heap.size w w1 := (Below.refl _ _).grown hgrow (Nat.le_refl _) (by simp)
      have hown1 : Own w1 w.heap.size w1.heap.size 9 (.slice (some ⟨w.heap.size, 0, none⟩) 0 n) (ss []) := Own.of hown
      clear hget hgrow hown
      go_wp2
      go_loopw [8, 10, 30] (fun nx lv i wr => ∃ (k : Nat) (acc : List ByteArray) (q : Int), k ≤ n ∧ i = .int .i64 k ∧ nx = .int .i64 q ∧ 0 ≤ q ∧ q ≤ xs.length ∧ acc.length = k ∧ rd xs n p = (rd xs (n - k) q).map (fun r => (acc ++ r.1, r.2)) ∧ Own wr w.heap.size wr.heap.size 9 lv (ss acc) ∧ Below w.heap.size w wr) (fun _ _ i _ => n - (intOf i).toNat)
      case atStart => exact ⟨0, [], p, Nat.zero_le _, rfl, rfl, by omega, by omega, rfl, by simp, hown1, hbel⟩
      case round =>
        obtain ⟨k, acc, q, hk, rfl, rfl, hq0, hq1, hacc, hD0, ho, hbr⟩ := hrel
        have HD : Hid (acc.length = k ∧ rd xs n p = (rd xs (n - k) q).map (fun r => (acc ++ r.1, r.2))) := ⟨hacc, hD0⟩
        have hsz := hbr.size
        clear hD0 hacc hown1 hbel
        by_cases hlt : k < n
        · have htxt := GetT.text_impl wr v xs q (hlater wr hbr) hb hx (by omega) (by omega)
          obtain ⟨s, q2, ok2, hr2⟩ : ∃ s q2 ok2, getText xs q = (s, q2, ok2) := ⟨_, _, _, rfl⟩
          rw [hr2] at htxt
          have HT : Hid (getText xs q = (s, q2, ok2)) := hr2
          clear hr2
          obtain ⟨m, hm⟩ : ∃ m, n - k = m + 1 := ⟨n - k - 1, by omega⟩
          cases ok2 with
          | false =>
            have HG : Hid (getTexts xs at_ = ([], 0, false)) := getTexts_none HR.out hn2 (by rw [HD.out.2, hm, rd_no HT.out]; rfl)
            clear HD hm
            go_wp2_with (go_at_call 79; refine htxt.mono ?_; rintro e wy ⟨rfl, hwy⟩; have hwy := hwy.symm; subst hwy)
            go_ret3
            exact done_no HG.out (Own.nilS _ _ _) hbr
          | true =>
            have hbt := getText_bd HT.out
            have HN : Hid ((acc ++ [s]).length = k + 1 ∧ rd xs n p = (rd xs (n - (k + 1)) q2).map (fun r => ((acc ++ [s]) ++ r.1, r.2))) := by
              refine ⟨by rw [List.length_append, HD.out.1]; rfl, ?_⟩
              rw [HD.out.2, hm, rd_yes HT.out, show n - (k + 1) = m by omega, Option.map_map]
              simp [Function.comp_def]
            have c2 : (ss acc).length + 1 ≤ maxLen := by rw [ss_len, HD.out.1]; unfold maxLen; omega
            have c3 : ((ss acc).length + 1) * 16 ≤ 140737488355328 := by rw [ss_len, HD.out.1]; omega
            have c4 : ∀ o, w.heap.size ≤ (wr.alloc o).heap.size := fun o => by simp; omega
            clear HD hm
            go_wp2_with (first | (go_at_call 79; refine htxt.mono ?_; rintro e wy ⟨rfl, hwy⟩; have hwy := hwy.symm; subst hwy) | (at_builtin; go_must (refine wpl_app _ rfl (.tmp 41) (.tmp 43) 22 rfl 9 i0 (.string ⟨#[]⟩) 16 Tryd.underlying22 hi hz0 hz1 hz2 rfl w.heap.size _ (ss acc) rfl (ho.alloc _) _ rfl [.string s] (Sl.one _ _ _) (one_str _) c2 c3 (c4 _) ?_); intro v3 w3 ho3 hb3 hg3))
            have hb4 : Below w.heap.size w w3 := (hbr.alloc hsz _).trans hb3
            have ho4 : Own w3 w.heap.size w3.heap.size 9 v3 (ss (acc ++ [s])) := by rw [ss_app]; exact ho3
            go_roundw
            case rel => exact ⟨k + 1, acc ++ [s], q2, by omega, by go_num, rfl, by omega, by omega, HN.out.1, HN.out.2, ho4, hb4⟩
            case measure => simp [intOf]; omega
        · have hkn : k = n := by omega
          have HG : Hid (getTexts xs at_ = (acc, q, true)) := getTexts_some HR.out hn2 (by rw [HD.out.2, hkn, Nat.sub_self]; simp [rd])
          clear HD
          go_wp2
          go_ret3
          exact done_yes HG.out ho hbr

set_option maxRecDepth 1000000 in
set_option maxHeartbeats 2000000 in
theorem texts_spec (w : World) (v : Value) (xs : List Int) (at_ : Int) (h : Sl w v (bs xs)) (hb : Byt xs) (hx : xs.length ≤ 140737488355328) (hlo : -9223372036854775808 ≤ at_) (hhi : at_ ≤ 9223372036854775807) :
    Calls Tryd.prog 52 #[v, .int .i64 at_] w fun e w' => Done xs at_ w e w' := by
  obtain ⟨i0, hi, hz0, hz1, hz2⟩ := info_parts Strs.info9
  have hget := Gets.get_spec w v xs at_ h hb hx hlo hhi
  obtain ⟨n, p, ok, hr⟩ : ∃ n p ok, getNum xs at_ = (n, p, ok) := ⟨_, _, _, rfl⟩
  rw [hr] at hget
  have HR : Hid (getNum xs at_ = (n, p, ok)) := hr
  clear hr
  cases ok with
  | false =>
    have HG : Hid (getTexts xs at_ = ([], 0, false)) := getTexts_no HR.out (.inl rfl)
    go_enter Tryd.func52, Tryd.ntmps52
    go_wp2_with (go_at_call 50; refine hget.mono ?_; rintro e w' ⟨rfl, rfl⟩)
    go_ret3
    exact done_no HG.out (Own.emptyS _ _ (Nat.le_refl _)) ((Below.refl _ _).alloc (Nat.le_refl _) _)
  | true =>
    have hbd := getNum_bd HR.out
    obtain ⟨n, rfl⟩ := Int.eq_ofNat_of_zero_le hbd.1
    by_cases hbig : (200 : Int) < (n : Int)
    · have HG : Hid (getTexts xs at_ = ([], 0, false)) := getTexts_no HR.out (.inr hbig)
      go_enter Tryd.func52, Tryd.ntmps52
      go_wp2_with (go_at_call 50; refine hget.mono ?_; rintro e w' ⟨rfl, rfl⟩)
      go_ret3
      exact done_no HG.out (Own.emptyS _ _ (Nat.le_refl _)) ((Below.refl _ _).alloc (Nat.le_refl _) _)
    · have hn2 : n ≤ 200 := by omega
      have hlater : ∀ w', Below w.heap.size w w' → Sl w' v (bs xs) := fun w' hb => h.later hb
      go_enter Tryd.func52, Tryd.ntmps52
      go_wp2_with (go_at_call 50; refine hget.mono ?_; rintro e wy ⟨rfl, hwy⟩; have hwy := hwy.symm; subst hwy)
      have hbel : Below w.heap.size w (w.alloc (.cells #[] 9)) := (Below.refl _ _).alloc (Nat.le_refl _) _
      have hown1 := Own.emptyS w w.heap.size (Nat.le_refl _)
      clear hget
      go_loopw [8, 10, 11] (fun nx lv i wr => ∃ (k : Nat) (acc : List ByteArray) (q : Int), k ≤ n ∧ i = .int .i64 k ∧ nx = .int .i64 q ∧ 0 ≤ q ∧ q ≤ xs.length ∧ acc.length = k ∧ rd xs n p = (rd xs (n - k) q).map (fun r => (acc ++ r.1, r.2)) ∧ Own wr w.heap.size wr.heap.size 9 lv (ss acc) ∧ Below w.heap.size w wr) (fun _ _ i _ => n - (intOf i).toNat)
      case atStart => exact ⟨0, [], p, Nat.zero_le _, rfl, rfl, by omega, by omega, rfl, by simp, hown1, hbel⟩
      case round =>
        obtain ⟨k, acc, q, hk, rfl, rfl, hq0, hq1, hacc, hD0, ho, hbr⟩ := hrel
        have HD : Hid (acc.length = k ∧ rd xs n p = (rd xs (n - k) q).map (fun r => (acc ++ r.1, r.2))) := ⟨hacc, hD0⟩
        have hsz := hbr.size
        clear hD0 hacc hown1 hbel
        by_cases hlt : k < n
        · have htxt := GetT.text_spec wr v xs q (hlater wr hbr) hb hx (by omega) (by omega)
          obtain ⟨s, q2, ok2, hr2⟩ : ∃ s q2 ok2, getText xs q = (s, q2, ok2) := ⟨_, _, _, rfl⟩
          rw [hr2] at htxt
          have HT : Hid (getText xs q = (s, q2, ok2)) := hr2
          clear hr2
          obtain ⟨m, hm⟩ : ∃ m, n - k = m + 1 := ⟨n - k - 1, by omega⟩
          cases ok2 with
          | false =>
            have HG : Hid (getTexts xs at_ = ([], 0, false)) := getTexts_none HR.out hn2 (by rw [HD.out.2, hm, rd_no HT.out]; rfl)
            clear HD hm
            go_wp2_with (go_at_call 51; refine htxt.mono ?_; rintro e wy ⟨rfl, hwy⟩; have hwy := hwy.symm; subst hwy)
            go_ret3
            exact done_no HG.out (Own.emptyS _ _ hsz) (hbr.alloc hsz _)
          | true =>
            have hbt := getText_bd HT.out
            have HN : Hid ((acc ++ [s]).length = k + 1 ∧ rd xs n p = (rd xs (n - (k + 1)) q2).map (fun r => ((acc ++ [s]) ++ r.1, r.2))) := by
              refine ⟨by rw [List.length_append, HD.out.1]; rfl, ?_⟩
              rw [HD.out.2, hm, rd_yes HT.out, show n - (k + 1) = m by omega, Option.map_map]
              simp [Function.comp_def]
            have c2 : (ss acc).length + 1 ≤ maxLen := by rw [ss_len, HD.out.1]; unfold maxLen; omega
            have c3 : ((ss acc).length + 1) * 16 ≤ 140737488355328 := by rw [ss_len, HD.out.1]; omega
            have c4 : ∀ o, w.heap.size ≤ (wr.alloc o).heap.size := fun o => by simp; omega
            clear HD hm
            go_wp2_with (first | (go_at_call 51; refine htxt.mono ?_; rintro e wy ⟨rfl, hwy⟩; have hwy := hwy.symm; subst hwy) | (at_builtin; go_must (refine wpl_app _ rfl (.tmp 45) (.tmp 47) 22 rfl 9 i0 (.string ⟨#[]⟩) 16 Tryd.underlying22 hi hz0 hz1 hz2 rfl w.heap.size _ (ss acc) rfl (ho.alloc _) _ rfl [.string s] (Sl.one _ _ _) (one_str _) c2 c3 (c4 _) ?_); intro v3 w3 ho3 hb3 hg3))
            have hb4 : Below w.heap.size w w3 := (hbr.alloc hsz _).trans hb3
            have ho4 : Own w3 w.heap.size w3.heap.size 9 v3 (ss (acc ++ [s])) := by rw [ss_app]; exact ho3
            go_roundw
            case rel => exact ⟨k + 1, acc ++ [s], q2, by omega, by go_num, rfl, by omega, by omega, HN.out.1, HN.out.2, ho4, hb4⟩
            case measure => simp [intOf]; omega
        · have hkn : k = n := by omega
          have HG : Hid (getTexts xs at_ = (acc, q, true)) := getTexts_some HR.out hn2 (by rw [HD.out.2, hkn, Nat.sub_self]; simp [rd])
          clear HD
          go_wp2
          go_ret3
          exact done_yes HG.out ho hbr

end Go.Proofs.YtfpaichdkddglabDoor.GetTs

/- Appends to what a call owns: only that row turns; what lies elsewhere stays, whatever its place. -/
namespace Go.Proofs.YtfpaichdkddglabDoor.Mem
open Go.RowKit Go.Proofs.YtfpaichdkddglabDoor.Laws
set_option linter.unusedVariables false
set_option linter.unusedSimpArgs false

theorem Own.gro {w w' : World} {lo hi : Nat} {e : TypeId} {v : Value} {cs : List Value} {r : Option Nat} (h : Own w lo hi e v cs) (g : w.grownBy w' r) (hne : ∀ k, v.ownBlock = some k → r ≠ some k) : Own w' lo hi e v cs := by
  obtain ⟨⟨h1, h2⟩, h3⟩ := h
  refine ⟨⟨h1, ?_⟩, h3⟩
  rcases h2 with h2 | ⟨b, cap, cur, rfl, hb, hg, q⟩
  · exact .inl h2
  · exact .inr ⟨b, cap, cur, rfl, hb, by rw [g.block b (Array.getElem?_eq_some_iff.1 hg).1 (fun e => hne b rfl e.symm)]; exact hg, q⟩
theorem rowGro {w w' : World} {k : Nat} {o : Obj} {r : Option Nat} (h : w.heap[k]? = some o) (g : w.grownBy w' r) (hne : r ≠ some k) : w'.heap[k]? = some o := by
  rw [g.block k (Array.getElem?_eq_some_iff.1 h).1 (fun e => hne e.symm)]
  exact h
theorem cellGro {w w' : World} {p : Addr} {x : Value} {r : Option Nat} (h : w.cell? p = some x) (g : w.grownBy w' r) (hne : r ≠ some p.block) : w'.cell? p = some x := g.cell h (fun e => hne e.symm)
theorem belowGro {w0 w w' : World} {n : Nat} {r : Option Nat} (h : Below n w0 w) (g : w.grownBy w' r) (hn : n ≤ w.heap.size) (hr : ∀ k, r = some k → n ≤ k) : Below n w0 w' := h.grown g hn hr
/-- a row of another type is not what is owned -/
theorem Own.neRow {w : World} {lo hi g : Nat} {e t : TypeId} {v : Value} {cs : List Value} {cs' : Array Value} {fr : Nat × Nat} (h : Own w lo hi e v cs) (hr : w.heap[g]? = some (.cells cs' t fr)) (ht : t ≠ e) : v.ownBlock ≠ some g := by
  intro hv
  obtain ⟨⟨h1, h2⟩, h3⟩ := h
  rcases h2 with ⟨rfl, _⟩ | ⟨g', cap, cur, rfl, hb, hg, r⟩
  · simp [Value.ownBlock] at hv
  · simp [Value.ownBlock] at hv
    subst hv
    rw [hg] at hr
    simp at hr
    exact ht hr.2.1.symm
/-- two that are owned, of unlike types, lie apart -/
theorem Own.neOwn {w : World} {lo hi lo' hi' : Nat} {e e' : TypeId} {v v' : Value} {cs cs' : List Value} (h : Own w lo hi e v cs) (h' : Own w lo' hi' e' v' cs') (he : e' ≠ e) : ∀ k, v'.ownBlock = some k → v.ownBlock ≠ some k := by
  intro k hk
  obtain ⟨⟨h1, h2⟩, h3⟩ := h'
  rcases h2 with ⟨rfl, _⟩ | ⟨g, cap, cur, rfl, hb, hg, r⟩
  · simp [Value.ownBlock] at hk
  · simp [Value.ownBlock] at hk
    subst hk
    exact Own.neRow h hg he
/-- two that are owned in ranges apart -/
theorem Own.neFar {w : World} {lo hi lo' hi' : Nat} {e e' : TypeId} {v v' : Value} {cs cs' : List Value} (h : Own w lo hi e v cs) (h' : Own w lo' hi' e' v' cs') (hd : hi ≤ lo' ∨ hi' ≤ lo) : ∀ k, v'.ownBlock = some k → v.ownBlock ≠ some k := by
  intro k hk hv
  have a1 := h.2 k hv
  have a2 := (h.1.lt k hv).1
  have a3 := h'.2 k hk
  have a4 := (h'.1.lt k hk).1
  omega
theorem Own.low {w : World} {lo hi : Nat} {e : TypeId} {v : Value} {cs : List Value} (h : Own w lo hi e v cs) {n : Nat} (hn : n ≤ lo) : ∀ k, v.ownBlock = some k → n ≤ k := fun k hk => Nat.le_trans hn (h.1.lt k hk).1
theorem Own.neLow {w : World} {lo hi g : Nat} {e : TypeId} {v : Value} {cs : List Value} (h : Own w lo hi e v cs) (hg : g < lo ∨ hi ≤ g) : v.ownBlock ≠ some g := by
  intro hv
  have a1 := h.2 g hv
  have a2 := (h.1.lt g hv).1
  omega
/-- an append as one step of a region that draws its order: only the row turns -/
theorem step_appG {P : Program} {ops : Array Oper} {o : Oper} {a : Act} {w : World} {K : Act → World → Prop} {Q : Exit → Act → World → Prop} {E : Prop}
    (hw : Region.wanted o (yielded ops a.tmps) = true) (s x : Operand) (t : TypeId) (hop : o.op = Op.call { callee := Callee.builtin Builtin.append, args := #[s, x], argTypes := #[t, t] })
    (e : TypeId) (i : TypeInfo) (z : Value) (bytes : Nat) (ht : P.underlying t = some (.slice e)) (hi : P.info? e = some i) (hz : i.zero = some z) (hsize : i.size = 1) (hby : i.bytes = bytes) (hzs : z.cells.size = 1)
    (lo : Nat) (v : Value) (cs : List Value) (hs : a.eval s = v) (hown : Own w lo w.heap.size e v cs) (y : Value) (hx : a.eval x = y) (news : List Value) (hsl : Sl w y news)
    (h1 : ∀ u ∈ news, u.oneCell' = true) (h63 : cs.length + news.length ≤ maxLen) (hb : (cs.length + news.length) * bytes ≤ 140737488355328) (hlo : lo ≤ w.heap.size)
    (hK : ∀ v' w', Own w' lo w'.heap.size e v' (cs ++ news) → w.grownBy w' v.ownBlock → K (a.put o.dst v') w') : if Region.wanted o (yielded ops a.tmps) = true then Oper.wp P o a w K Q else E := by
  rw [if_pos hw]
  obtain ⟨ao, cap, rfl, hc, hn, hr⟩ := hsl
  cases ao with
  | none =>
    have hcap := hn rfl
    have hnil : news = [] := List.eq_nil_of_length_eq_zero (by omega)
    subst hnil
    subst hcap
    have hrun := run_append_owned_none (P := P) (w := w) lo t o.type e i 1 ht hi v cs.length cs hown.1
    unfold Oper.wp
    simp [execOp, hop, resolve, invoke, builtin, hs, hx, hrun, Result.andThen]
    exact hK v w (by simpa using hown) (World.grownBy.refl _ _)
  | some ad =>
    refine wp_append_own w s x t hop lo e i z 1 bytes ht hi hz hsize hby hzs (by decide) v cs.length cs hs hown.1 ad news.length cap news hx (by simp) ?_ h1 h63 hb hlo ?_
    · intro j u hj
      have hlt : j < news.length := (List.getElem?_eq_some_iff.1 hj).1
      obtain ⟨b, off, he, hcell⟩ := hr (by omega)
      obtain rfl := Option.some.inj he
      rw [Addr.add_lit, hcell j hlt, hj]
    · intro v' w' ho hgr _
      exact hK v' w' (Own.of ho) hgr
theorem wpl_strG {P : Program} (w : World) {ops : Array Oper} {rest : List Oper} {o : Oper} {a : Act} {Q : Exit → Act → World → Prop}
    (hg : o.guard = none) (s x : Operand) (t u : TypeId) (hop : o.op = Op.call { callee := Callee.builtin Builtin.append, args := #[s, x], argTypes := #[t, u] })
    (e : TypeId) (i : TypeInfo) (ht : P.underlying t = some (.slice e)) (hu : P.underlying u = some .string) (hi : P.info? e = some i) (hz : i.zero = some (.int .u8 0)) (hsize : i.size = 1) (hby : i.bytes = 1)
    (lo : Nat) (v : Value) (xs : List Int) (hs : a.eval s = v) (hown : Own w lo w.heap.size e v (bs xs)) (y : ByteArray) (hx : a.eval x = .string y)
    (hb : xs.length + y.size ≤ 140737488355328) (hlo : lo ≤ w.heap.size)
    (hK : ∀ v' w', Own w' lo w'.heap.size e v' (bs (xs ++ sb y)) → w.grownBy w' v.ownBlock → wpList P ops Q rest (a.put o.dst v') w') : wpList P ops Q (o :: rest) a w := by
  refine Lib.wpList_append_own_string w hg s x t u hop lo e i ht hu hi hz hsize hby v (bs xs).length (bs xs) hs hown.1 y hx (by rw [bs_len]; unfold maxLen; omega) (by rw [bs_len]; omega) hlo ?_
  intro v' w' ho hgr _
  rw [sb_cells, ← bs_app] at ho
  exact hK v' w' (Own.of ho) hgr

end Go.Proofs.YtfpaichdkddglabDoor.Mem

/- Chapter 12, the specification's side: commits as bytes. -/
namespace Go.Proofs.YtfpaichdkddglabDoor.Sr
open Go.RowKit Go.Proofs.YtfpaichdkddglabDoor.Mem Go.Proofs.YtfpaichdkddglabDoor.Laws Go.Proofs.YtfpaichdkddglabDoor.Bytes Go.Proofs.YtfpaichdkddglabDoor.Sha Go.Proofs.YtfpaichdkddglabDoor.Tr Go.Proofs.YtfpaichdkddglabDoor.He Go.Proofs.YtfpaichdkddglabDoor.Lg
set_option linter.unusedVariables false
set_option linter.unusedSimpArgs false

/-- the first four bytes of a digest, as a text -/
theorem dig4 (Y : List Int) : (Plain.txt (digest Y)).size = 32 ∧ ((Plain.txt (digest Y)).extract 0 4).size = 4 ∧ sb ((Plain.txt (digest Y)).extract 0 4) = sum4 Y := by
  have h32 : (Plain.txt (digest Y)).size = 32 := by rw [txt_size, digest_len]
  have e : sb (Plain.txt (digest Y)) = digest Y := sb_txt (digest_byt Y)
  have e2 : sb ((Plain.txt (digest Y)).extract 0 4) = (sb (Plain.txt (digest Y))).take 4 := by
    unfold sb
    rw [ByteArray.data_extract, Array.toList_extract, ← List.map_take]
    simp [List.extract]
  refine ⟨h32, ?_, ?_⟩
  · have h4 : (sb ((Plain.txt (digest Y)).extract 0 4)).length = 4 := by rw [e2, e, List.length_take, digest_len]; rfl
    rw [sb_len] at h4
    exact h4
  · rw [e2, e]; rfl

end Go.Proofs.YtfpaichdkddglabDoor.Sr

/- Chapter 12, stores as cells; the specification's side: a new store, a copy. -/
namespace Go.Proofs.YtfpaichdkddglabDoor.Sr
open Go.RowKit Go.Proofs.YtfpaichdkddglabDoor.Mem Go.Proofs.YtfpaichdkddglabDoor.Laws Go.Proofs.YtfpaichdkddglabDoor.Bytes Go.Proofs.YtfpaichdkddglabDoor.Sha Go.Proofs.YtfpaichdkddglabDoor.Tr Go.Proofs.YtfpaichdkddglabDoor.He Go.Proofs.YtfpaichdkddglabDoor.Lg
set_option linter.unusedVariables false
set_option linter.unusedSimpArgs false

/-- a store's cells: texts, head, bytes, how many are sure -/
def sc (v : Value) (h : Hd) (b : Value) (s : Int) : Array Value := #[v, .int .i64 h.n, .string h.r, b, .int .i64 s]
theorem sizeS (v : Value) (h : Hd) (b : Value) (s : Int) : (Tryd.prog.info? 29).map (·.size) = some (sc v h b s).size := by
  show _ = some 5
  kernel_rfl

theorem oneS {v b : Value} (h : Hd) (s : Int) (hv : v.oneCell' = true) (hb : b.oneCell' = true) : (sc v h b s).all (·.oneCell') = true := by
  simp [sc, Value.oneCell']
  exact ⟨hv, hb⟩

set_option maxRecDepth 1000000 in
set_option maxHeartbeats 1000000 in
theorem storenew_spec (w : World) : Calls Tryd.prog 5 #[] w fun e w' => e = .returned (.agg #[.slice none 0 0, .int .i64 (headOf []).n, .string (headOf []).r, .slice none 0 0, .int .i64 0]) ∧ Below w.heap.size w w' := by
  have B0 : Hid (Below w.heap.size w w) := Below.refl _ _
  obtain ⟨W1, HW1, b1, y1, hS1, r_res1⟩ : ∃ X, Hid ((w.alloc (.cells #[.slice none 0 0, .int .i64 0, .string ⟨#[]⟩, .slice none 0 0, .int .i64 0] 29)) = X) ∧ Below w.heap.size w X ∧ w.heap.size + 1 ≤ X.heap.size ∧ Hid (X.heap.size = w.heap.size + 1) ∧ Hid (X.heap[w.heap.size]? = some (.cells #[.slice none 0 0, .int .i64 0, .string ⟨#[]⟩, .slice none 0 0, .int .i64 0] 29 (0, 0))) := ⟨_, rfl, ((Below.refl _ _).alloc (Nat.le_refl _) _), by simp, by show _ = _; simp, (by show _ = _; exact alloc_nth1_0 w _)⟩
  have z1 : w.heap.size ≤ W1.heap.size := b1.size
  have B1 : Hid (Below w.heap.size w W1) := B0.out.trans (b1.mono B0.out.size)
  have c_res1_0 : W1.cell? ⟨w.heap.size, 0, none⟩ = some (.slice none 0 0) := row_at r_res1.out 0
  have c_res1_1 : W1.cell? ⟨w.heap.size, 1, none⟩ = some (.int .i64 0) := row_at r_res1.out 1
  have c_res1_2 : W1.cell? ⟨w.heap.size, 2, none⟩ = some (.string ⟨#[]⟩) := row_at r_res1.out 2
  have c_res1_3 : W1.cell? ⟨w.heap.size, 3, none⟩ = some (.slice none 0 0) := row_at r_res1.out 3
  have c_res1_4 : W1.cell? ⟨w.heap.size, 4, none⟩ = some (.int .i64 0) := row_at r_res1.out 4
  obtain ⟨M, hM⟩ : ∃ M, headOf [] = M := ⟨_, rfl⟩
  have q : ∀ W, _ := fun W => lognew_spec W
  simp only [hM] at q
  rw [hM]
  clear hM
  go_enter Tryd.func5, Tryd.ntmps5
  go_wp2_with fail
  rw [HW1.out]
  refine (q W1).mono ?_
  rintro e W2 ⟨rfl, b2⟩
  have z2 : W1.heap.size ≤ W2.heap.size := b2.size
  have B2 : Hid (Below w.heap.size w W2) := B1.out.trans (b2.mono B1.out.size)
  have r_res2 : Hid (W2.heap[w.heap.size]? = some (.cells #[.slice none 0 0, .int .i64 0, .string ⟨#[]⟩, .slice none 0 0, .int .i64 0] 29 (0, 0))) := rowKeep r_res1.out b2
  have c_res2_0 : W2.cell? ⟨w.heap.size, 0, none⟩ = some (.slice none 0 0) := row_at r_res2.out 0
  have c_res2_1 : W2.cell? ⟨w.heap.size, 1, none⟩ = some (.int .i64 0) := row_at r_res2.out 1
  have c_res2_2 : W2.cell? ⟨w.heap.size, 2, none⟩ = some (.string ⟨#[]⟩) := row_at r_res2.out 2
  have c_res2_3 : W2.cell? ⟨w.heap.size, 3, none⟩ = some (.slice none 0 0) := row_at r_res2.out 3
  have c_res2_4 : W2.cell? ⟨w.heap.size, 4, none⟩ = some (.int .i64 0) := row_at r_res2.out 4
  clear r_res1 c_res1_0 c_res1_1 c_res1_2 c_res1_3 c_res1_4
  go_wp2_with (refine wpList_store_row rfl 29 _ _ rfl (w.heap.size) (sc (.slice none 0 0) M (.slice none 0 0) 0) rfl rfl 29 _ r_res2.out (sizeS _ _ _ _) rfl (oneS _ _ rfl rfl) ?_)
  refine bodyPost_ret (v := .agg (sc (.slice none 0 0) M (.slice none 0 0) 0)) (results_cell_row rfl _ _ (w.heap.size) 29 _ (0, 0) _ rfl (setRow_heap _ _ _ _ _ (0, 0) r_res2.out) Tryd.underlying29 rfl (sizeS _ _ _ _)) rfl ⟨rfl, below_setRow B2.out (by omega) _⟩

end Go.Proofs.YtfpaichdkddglabDoor.Sr

/- Stores into a part of a row: the row has the new cells then, all else stays. -/
namespace Go.Proofs.YtfpaichdkddglabDoor.Mem
open Go.RowKit Go.Proofs.YtfpaichdkddglabDoor.Laws
set_option linter.unusedVariables false
set_option linter.unusedSimpArgs false

theorem gro_setCells (w : World) (g o : Nat) (vs : List Value) : w.grownBy (w.setCells g o vs) (some g) := by
  have h : ∀ (vs : List Value) (o : Nat) (w : World), (w.setCells g o vs).os = w.os ∧ (w.setCells g o vs).tape = w.tape ∧ (w.setCells g o vs).output = w.output := by
    intro vs
    induction vs with
    | nil => intro o w; exact ⟨rfl, rfl, rfl⟩
    | cons v r ih => intro o w; rw [World.setCells]; exact ih (o + 1) _
  obtain ⟨h1, h2, h3⟩ := h vs o w
  exact ⟨h1, h2, h3, by rw [size_setCells]; exact Nat.le_refl _, fun k _ hk => heap_setCells_other g k (fun e => hk (by rw [e])) vs o w⟩
theorem gro_setRow (w : World) (g : Nat) (cs : Array Value) : w.grownBy (w.setRow g cs) (some g) :=
  ⟨rfl, rfl, rfl, by rw [size_setRow]; exact Nat.le_refl _, fun k _ hk => setRow_other _ _ _ _ (fun e => hk (by rw [e]))⟩
theorem size_same {w w' : World} (h : w.grownBy w' none) : w.heap.size ≤ w'.heap.size := h.size
/-- several cells of a row are stored: the row has them then, all else stays -/
theorem wp_partG {P : Program} {op : Oper} {a : Act} {w : World} {K : Act → World → Prop} {Q : Exit → Act → World → Prop} (ty : TypeId) (x y : Operand) (ho : op.op = .store ty x y)
    (b o : Nat) (cells : Array Value) (hx : a.eval x = .pointer (some ⟨b, o, none⟩)) (hy : a.eval y = .agg cells) (cur : List Value) (t : TypeId) (hr : w.heap[b]? = some (.cells cur.toArray t (0, 0)))
    (hn : o + cells.size ≤ cur.length) (hi : (P.info? ty).map (·.size) = some cells.size) (h1 : cells.all (·.oneCell') = true) (new : List Value) (hnew : putL cur o cells.toList = new)
    (h : ∀ w', w'.heap[b]? = some (.cells new.toArray t (0, 0)) → w.grownBy w' (some b) → K (a.put op.dst undef) w') : op.wp P a w K Q := by
  refine wp_store_mid ty x y ho b o cells hx hy (there_row hr (by simpa using hn)) hi h1 (h _ ?_ (gro_setCells _ _ _ _))
  rw [← hnew]
  exact heap_setCells b cells.toList o w cur t hr
theorem wpl_partG {P : Program} {ops : Array Oper} {rest : List Oper} {op : Oper} {a : Act} {w : World} {Q : Exit → Act → World → Prop} (hgd : op.guard = none) (ty : TypeId) (x y : Operand) (ho : op.op = .store ty x y)
    (b o : Nat) (cells : Array Value) (hx : a.eval x = .pointer (some ⟨b, o, none⟩)) (hy : a.eval y = .agg cells) (cur : List Value) (t : TypeId) (hr : w.heap[b]? = some (.cells cur.toArray t (0, 0)))
    (hn : o + cells.size ≤ cur.length) (hi : (P.info? ty).map (·.size) = some cells.size) (h1 : cells.all (·.oneCell') = true) (new : List Value) (hnew : putL cur o cells.toList = new)
    (h : ∀ w', w'.heap[b]? = some (.cells new.toArray t (0, 0)) → w.grownBy w' (some b) → wpList P ops Q rest (a.put op.dst undef) w') : wpList P ops Q (op :: rest) a w :=
  wpList_plain hgd fun _ hK => wp_partG ty x y ho b o cells hx hy cur t hr hn hi h1 new hnew (fun w' r g => hK _ _ (h w' r g))
/-- one cell of a row is stored -/
theorem wp_oneG {P : Program} {op : Oper} {a : Act} {w : World} {K : Act → World → Prop} {Q : Exit → Act → World → Prop} (ty : TypeId) (x y : Operand) (ho : op.op = .store ty x y)
    (b o : Nat) (v : Value) (hx : a.eval x = .pointer (some ⟨b, o, none⟩)) (hy : a.eval y = v) (cur : List Value) (t : TypeId) (hr : w.heap[b]? = some (.cells cur.toArray t (0, 0)))
    (hn : o + 1 ≤ cur.length) (hi : (P.info? ty).map (·.size) = some 1) (h1 : v.oneCell' = true) (new : List Value) (hnew : putL cur o [v] = new)
    (h : ∀ w', w'.heap[b]? = some (.cells new.toArray t (0, 0)) → w.grownBy w' (some b) → K (a.put op.dst undef) w') : op.wp P a w K Q := by
  have ht := there_row (n := 1) hr (by simpa using hn)
  have hc : v.cells = #[v] := by cases v <;> first | rfl | cases h1
  have hrun : (storeVar ty ⟨b, o, none⟩ v).run P w = .ok () (w.setCells b o [v]) := by
    have := run_storeCells_cells (P := P) b o [v] 0 w (fun j hj => by simpa using (ht j (by simpa using hj)).1) (fun j hj => by simpa using (ht j (by simpa using hj)).2) (fun u hu => by simp at hu; subst hu; exact h1)
    cases hq : P.info? ty with
    | none => simp [hq] at hi
    | some i =>
      have hs : i.size = 1 := by simpa [hq] using hi
      simp only [Nat.add_zero] at this
      simp [storeVar, sizeOf, typeInfo, hq, hc, hs, this]
  have hK := h (w.setCells b o [v]) (by rw [← hnew]; exact heap_setCells b [v] o w cur t hr) (gro_setCells _ _ _ _)
  unfold Oper.wp execOp
  simp only [ho, hx, hy, Instr.storeAt, Instr.sureAddr, Sem.run_bind, Sem.run_pure, Result.andThen_ok, hrun]
  exact hK
theorem wpl_oneG {P : Program} {ops : Array Oper} {rest : List Oper} {op : Oper} {a : Act} {w : World} {Q : Exit → Act → World → Prop} (hgd : op.guard = none) (ty : TypeId) (x y : Operand) (ho : op.op = .store ty x y)
    (b o : Nat) (v : Value) (hx : a.eval x = .pointer (some ⟨b, o, none⟩)) (hy : a.eval y = v) (cur : List Value) (t : TypeId) (hr : w.heap[b]? = some (.cells cur.toArray t (0, 0)))
    (hn : o + 1 ≤ cur.length) (hi : (P.info? ty).map (·.size) = some 1) (h1 : v.oneCell' = true) (new : List Value) (hnew : putL cur o [v] = new)
    (h : ∀ w', w'.heap[b]? = some (.cells new.toArray t (0, 0)) → w.grownBy w' (some b) → wpList P ops Q rest (a.put op.dst undef) w') : wpList P ops Q (op :: rest) a w :=
  wpList_plain hgd fun _ hK => wp_oneG ty x y ho b o v hx hy cur t hr hn hi h1 new hnew (fun w' r g => hK _ _ (h w' r g))

end Go.Proofs.YtfpaichdkddglabDoor.Mem

/- The laws' helper szStringS, with what is left. -/
namespace Go.Proofs.YtfpaichdkddglabDoor.Strs
open Go.RowKit Go.Proofs.YtfpaichdkddglabDoor.Mem Go.Proofs.YtfpaichdkddglabDoor.Laws Go.Proofs.YtfpaichdkddglabDoor.Bytes
set_option linter.unusedVariables false
set_option linter.unusedSimpArgs false

set_option maxRecDepth 1000000 in
set_option maxHeartbeats 400000 in
/-- szStringS: below 0 where there is more than what is left; else what is left then. -/
theorem sz_any2 (w : World) (v : Value) (l : List ByteArray) (left : Nat) (h : Sl w v (ss l)) (hs : ∀ s ∈ l, s.size ≤ 9223372036854775807) (hx : l.length ≤ 9223372036854775807) (hlf : left ≤ 1048576) :
    Calls Tryd.prog 38 #[v, .int .i64 (left : Int)] w fun e w' => (∃ r : Int, e = .returned (.int .i64 r) ∧ (r < 0 ∨ (l.length + Puts.tot l ≤ left ∧ 0 ≤ r ∧ r ≤ left))) ∧ w = w' := by
  obtain ⟨ao, cap, rfl, hc1, _, hr1⟩ := h
  rw [ss_len] at hr1 hc1
  rw [ss_len]
  by_cases hbig : left < l.length
  · go_enter Tryd.func38, Tryd.ntmps38
    go_wp2
    go_ret
    exact ⟨⟨_, rfl, .inl (by decide)⟩, rfl⟩
  · go_enter Tryd.func38, Tryd.ntmps38
    go_wp2
    go_loop [1, 5] (fun lf i => ∃ (k m : Nat), k ≤ l.length ∧ i = .int .i64 k ∧ lf = .int .i64 (m : Int) ∧ m + l.length + Puts.tot (l.take k) = left) (fun _ i => l.length - (intOf i).toNat)
    case atStart => exact ⟨0, left - l.length, Nat.zero_le _, rfl, congrArg (Value.int .i64) (by omega), by simp [Puts.tot]; omega⟩
    case round =>
      obtain ⟨k, m, hk, rfl, rfl, hm⟩ := hrel
      have HM : Hid (m + l.length + Puts.tot (l.take k) = left) := hm
      have hmb : m ≤ 1048576 := by omega
      clear hm
      by_cases hlt : k < l.length
      · obtain ⟨b, off, s, rfl, hx0, hcell⟩ := Sl.strAt hr1 rfl hlt
        have hsz := hs s (List.mem_of_getElem? hx0)
        have HT : Hid (Puts.tot (l.take (k + 1)) = Puts.tot (l.take k) + s.size) := tot_take l k s hx0
        clear hx0 hr1 hs
        by_cases hneg : m < s.size
        · go_wp2
          go_ret
          exact ⟨⟨_, rfl, .inl (by decide)⟩, rfl⟩
        · go_wp2
          go_round
          case rel => exact ⟨k + 1, m - s.size, by omega, by go_num, congrArg (Value.int .i64) (by omega), by have := HM.out; have := HT.out; omega⟩
          case measure => simp [intOf]; omega
      · go_wp2
        go_ret
        refine ⟨⟨_, rfl, .inr ⟨?_, ?_, ?_⟩⟩, rfl⟩
        · have h1 := HM.out
          rw [List.take_of_length_le (by omega)] at h1
          omega
        · show (0 : Int) ≤ (m : Int)
          omega
        · have h1 := HM.out
          show (m : Int) ≤ (left : Int)
          omega

end Go.Proofs.YtfpaichdkddglabDoor.Strs
