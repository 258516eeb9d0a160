/- Texts in one: Sr2, GetT, GetTs, SrA. -/
import Derived.Test.YtchonoonclllbaaGreatDoorPh12
set_option maxHeartbeats 16000000
set_option linter.unusedVariables false
set_option linter.unusedSimpArgs false
namespace Go.Proofs.YtchonoonclllbaaGreatDoor.Sr
open Go.RowKit Mem Laws Sha Tr He Lg
structure Sto where
 l : List ByteArray
 h : Hd
 b : List Int
 s : Int
def new12 : Sto := ⟨[], headOf [], [], 0⟩
def replayF : Nat → List Int → Nat → List ByteArray → Hd → List ByteArray × Hd × Bool
 | 0, _, _, l, hd => (l, hd, true)
 | f + 1, xs, a, l, hd =>
  if a < xs.length then
   if (getC xs (a : Int)).2.2.2 = true ∧ l.length + (getC xs (a : Int)).2.1.length ≤ 200 then
    if eqH (getC xs (a : Int)).1 (headOf (l ++ (getC xs (a : Int)).2.1)) = true then
     replayF f xs (getC xs (a : Int)).2.2.1.toNat (l ++ (getC xs (a : Int)).2.1) (getC xs (a : Int)).1
    else (l ++ (getC xs (a : Int)).2.1, (getC xs (a : Int)).1, false)
   else (l, hd, false)
  else (l, hd, true)
def replay (xs : List Int) : List ByteArray × Hd × Bool := replayF xs.length xs 0 [] (headOf [])
def storeOk (st : Sto) : Bool := logOk st.l st.h && decide (st.b.length ≤ 60000) && decide (0 ≤ st.s ∧ st.s ≤ (st.b.length : Int)) && (replay st.b).2.2 && decide ((replay st.b).1 = st.l)
def commit1 (st : Sto) (t : List Hd) (h : Hd) (x : List ByteArray) : Sto × Int :=
 if (extend st.l st.h t h x).2.2 = 0 then (⟨(extend st.l st.h t h x).1, (extend st.l st.h t h x).2.1, st.b ++ put h x, st.s⟩, 0) else (st, (extend st.l st.h t h x).2.2)
def commit (st : Sto) (t : List Hd) (h : Hd) (x : List ByteArray) : Sto × Int :=
 if storeOk st = true ∧ st.b.length + (put h x).length ≤ 60000 then commit1 st t h x else (st, 1)
def openF : Nat → List Hd → List Int → Nat → Sto → Nat → Sto × Nat
 | 0, _, _, _, st, n => (st, n)
 | f + 1, t, xs, a, st, n =>
  if a < xs.length then
   if (getC xs (a : Int)).2.2.2 = true ∧ (commit1 st t (getC xs (a : Int)).1 (getC xs (a : Int)).2.1).2 = 0 then
    openF f t xs (getC xs (a : Int)).2.2.1.toNat (commit1 st t (getC xs (a : Int)).1 (getC xs (a : Int)).2.1).1 (n + 1)
   else (st, n)
  else (st, n)
theorem extend_good {l x : List ByteArray} {hd h : Hd} {t : List Hd} (hc : (extend l hd t h x).2.2 = 0) :
  logOk l hd = true ∧ okH h = true ∧ signed t h = true ∧ 1 ≤ x.length ∧ (l ++ x).length ≤ 200 ∧ h = headOf (l ++ x) ∧ extend l hd t h x = (l ++ x, h, 0) := by
 unfold extend at hc
 split at hc
 ·rename_i hk
  split at hc
  ·rename_i hs
   split at hc
   ·simp at hc
   ·rename_i hx
    split at hc
    ·rename_i he
     have := okH_parts hk.2.1
     refine ⟨hk.1, hk.2.1, hs, by omega, by have := hk.2.2; omega, (eqH_iff _ _).1 he, extend0 hk hs hx he⟩
    ·simp at hc
  ·simp at hc
 ·simp at hc
theorem extend_of {l x : List ByteArray} {hd : Hd} {t : List Hd} (hk : logOk l hd = true) (hx : 1 ≤ x.length) (hl : (l ++ x).length ≤ 200) (hs : signed t (headOf (l ++ x)) = true) : extend l hd t (headOf (l ++ x)) x = (l ++ x, headOf (l ++ x), 0) := by
 have hn : (headOf (l ++ x)).n = ((l ++ x).length : Int) := by unfold headOf; rw [if_pos hl]
 have ho : okH (headOf (l ++ x)) = true := by
  unfold okH
  rw [decide_eq_true_eq, hn]
  refine ⟨⟨by omega, by omega⟩, ?_⟩
  unfold headOf
  rw [if_pos hl]
  exact root_size _
 exact extend0 ⟨hk, ho, hn⟩ hs (by omega) ((eqH_iff _ _).2 rfl)
theorem commit1_good {st : Sto} {t : List Hd} {h : Hd} {x : List ByteArray} (hc : (commit1 st t h x).2 = 0) :
  logOk st.l st.h = true ∧ okH h = true ∧ signed t h = true ∧ 1 ≤ x.length ∧ (st.l ++ x).length ≤ 200 ∧ h = headOf (st.l ++ x) ∧ (commit1 st t h x).1 = ⟨st.l ++ x, h, st.b ++ put h x, st.s⟩ := by
 unfold commit1 at hc ⊢
 split at hc
 ·rename_i he
  obtain ⟨a, b, c, d, e, f, g⟩ := extend_good he
  refine ⟨a, b, c, d, e, f, ?_⟩
  rw [g, if_pos rfl]
 ·rename_i he
  exact absurd hc he
theorem commit1_of {st : Sto} {t : List Hd} {x : List ByteArray} (hk : logOk st.l st.h = true) (hx : 1 ≤ x.length) (hl : (st.l ++ x).length ≤ 200) (hs : signed t (headOf (st.l ++ x)) = true) :
  commit1 st t (headOf (st.l ++ x)) x = (⟨st.l ++ x, headOf (st.l ++ x), st.b ++ put (headOf (st.l ++ x)) x, st.s⟩, 0) := by
 unfold commit1
 rw [extend_of hk hx hl hs, if_pos rfl]
theorem get_more {xs r : List Int} {a : Nat} {h : Hd} {x : List ByteArray} {p : Int} (hb : Byt xs) (hg : getC xs (a : Int) = (h, x, p, true)) : getC (xs ++ r) (a : Int) = (h, x, p, true) := by
 obtain ⟨q, rfl, hq, hqx, hk, h1, h2, hbl, hd⟩ := put_get hb hg
 have e : xs ++ r = xs.take a ++ (put h x ++ (xs.drop q ++ r)) := by
  rw [← List.append_assoc (put h x), ← hd, ← List.append_assoc, List.take_append_drop]
 have ea : (xs.take a).length = a := by rw [List.length_take]; omega
 have g := get_put (xs.take a) (xs.drop q ++ r) hk h1 h2 hbl
 rw [← e, ea, ← hq] at g
 exact g
theorem replay_app {h : Hd} {x L : List ByteArray} {H : Hd} (xs : List Int) (hb : Byt xs) (hk : okH h = true) (h1 : 1 ≤ x.length) (hl : (L ++ x).length ≤ 200) (hbl : (body h x).length ≤ 1000000000) (he : h = headOf (L ++ x)) :
  ∀ (f g a : Nat) (l : List ByteArray) (hd : Hd), a ≤ xs.length → xs.length - a ≤ f → (xs ++ put h x).length - a ≤ g → replayF f xs a l hd = (L, H, true) → replayF g (xs ++ put h x) a l hd = (L ++ x, h, true) := by
 have hp := put_pos h x
 have hlx : x.length ≤ 200 := by rw [List.length_append] at hl; omega
 have last : ∀ (g : Nat) (hd : Hd), 1 ≤ g → (xs ++ put h x).length - xs.length ≤ g → replayF g (xs ++ put h x) xs.length L hd = (L ++ x, h, true) := by
  intro g hd hg1 hg
  obtain ⟨g, rfl⟩ : ∃ k, g = k + 1 := ⟨g - 1, by omega⟩
  have gp := get_put xs [] hk h1 hlx hbl
  rw [List.append_nil] at gp
  rw [replayF, if_pos (by rw [List.length_append]; omega), gp]
  simp only [Int.toNat_natCast]
  rw [List.length_append] at hl
  rw [if_pos ⟨trivial, hl⟩, if_pos ((eqH_iff _ _).2 he)]
  cases g with
  | zero => rfl
  | succ g => rw [replayF, if_neg (by rw [List.length_append]; omega)]
 intro f
 induction f with
 | zero =>
  intro g a l hd ha hf hg hr
  have : a = xs.length := by omega
  subst this
  rw [replayF] at hr
  simp only [Prod.mk.injEq] at hr
  obtain ⟨rfl, rfl, _⟩ := hr
  exact last g hd (by rw [List.length_append] at hg; omega) hg
 | succ f ih =>
  intro g a l hd ha hf hg hr
  by_cases hlt : a < xs.length
  ·obtain ⟨h', x', p, ok, hgc⟩ : ∃ h' x' p ok, getC xs (a : Int) = (h', x', p, ok) := ⟨_, _, _, _, rfl⟩
   rw [replayF, if_pos hlt, hgc] at hr
   simp only at hr
   split at hr
   ·rename_i hc
    obtain ⟨rfl, hc⟩ := hc
    split at hr
    ·rename_i hee
     obtain ⟨q, rfl, hq, hqx, _⟩ := put_get hb hgc
     have hp' := put_pos h' x'
     obtain ⟨g, rfl⟩ : ∃ k, g = k + 1 := ⟨g - 1, by rw [List.length_append] at hg; omega⟩
     rw [replayF, if_pos (by rw [List.length_append]; omega), get_more hb hgc]
     simp only
     rw [if_pos ⟨trivial, hc⟩, if_pos hee]
     exact ih g _ _ _ (by simp only [Int.toNat_natCast]; omega) (by simp only [Int.toNat_natCast]; omega) (by simp only [Int.toNat_natCast]; omega) hr
    ·simp at hr
   ·simp at hr
  ·have : a = xs.length := by omega
   subst this
   rw [replayF, if_neg hlt] at hr
   simp only [Prod.mk.injEq] at hr
   obtain ⟨rfl, rfl, _⟩ := hr
   exact last g hd (by rw [List.length_append] at hg; omega) hg
def Good (st : Sto) : Prop := logOk st.l st.h = true ∧ replay st.b = (st.l, st.h, true) ∧ Byt st.b
theorem good_new : Good new12 := ⟨logOk_of (l := []) (by simp), rfl, fun x hx => by cases hx⟩
theorem good_commit {st : Sto} {t : List Hd} {h : Hd} {x : List ByteArray} (hg : Good st) (hc : (commit1 st t h x).2 = 0) (hbl : (body h x).length ≤ 1000000000) : Good (commit1 st t h x).1 := by
 obtain ⟨a, b, c, d, e, f, g⟩ := commit1_good hc
 rw [g]
 refine ⟨by rw [f]; exact logOk_of e, ?_, hg.2.2.app (put_byt h x)⟩
 exact replay_app st.b hg.2.2 b d e hbl f _ _ _ _ _ (Nat.zero_le _) (by omega) (Nat.le_refl _) hg.2.1
theorem good_ok {st : Sto} (hg : Good st) (hl : st.b.length ≤ 60000) (hs : 0 ≤ st.s ∧ st.s ≤ (st.b.length : Int)) : storeOk st = true := by
 unfold storeOk
 rw [hg.1, hg.2.1]
 simp [hl, hs]
theorem ok_parts {st : Sto} (h : storeOk st = true) : logOk st.l st.h = true ∧ st.b.length ≤ 60000 ∧ 0 ≤ st.s ∧ st.s ≤ (st.b.length : Int) ∧ (replay st.b).2.2 = true ∧ (replay st.b).1 = st.l := by
 unfold storeOk at h
 simp only [Bool.and_eq_true, decide_eq_true_eq] at h
 obtain ⟨⟨⟨⟨a, b⟩, c⟩, d⟩, e⟩ := h
 exact ⟨a, b, c.1, c.2, d, e⟩
theorem replay_head (xs : List Int) : ∀ (f a : Nat) (l : List ByteArray) (hd : Hd), hd = headOf l → (replayF f xs a l hd).2.2 = true → (replayF f xs a l hd).2.1 = headOf (replayF f xs a l hd).1 := by
 intro f
 induction f with
 | zero => intro a l hd h _; exact h
 | succ f ih =>
  intro a l hd h hr
  rw [replayF] at hr ⊢
  split
  ·rename_i h1
   rw [if_pos h1] at hr
   split
   ·rename_i h2
    rw [if_pos h2] at hr
    split
    ·rename_i h3
     rw [if_pos h3] at hr
     exact ih _ _ _ ((eqH_iff _ _).1 h3) hr
    ·rename_i h3
     rw [if_neg h3] at hr
     cases hr
   ·rename_i h2
    rw [if_neg h2] at hr
    cases hr
  ·exact h
theorem ok_good {st : Sto} (hb : Byt st.b) (h : storeOk st = true) : Good st := by
 obtain ⟨a, b, c, d, e, f⟩ := ok_parts h
 refine ⟨a, ?_, hb⟩
 have hh := replay_head st.b st.b.length 0 [] (headOf []) rfl e
 have h2 : (replay st.b).2.1 = headOf (replay st.b).1 := hh
 rw [f] at h2
 have h3 := (logOk_yes a).2
 exact Prod.ext f (Prod.ext (by rw [h3]; exact h2) e)
theorem commit_ok {st : Sto} {t : List Hd} {h : Hd} {x : List ByteArray} (hb : Byt st.b) (hc : (commit st t h x).2 = 0) : storeOk (commit st t h x).1 = true ∧ storeOk st = true ∧ st.b.length + (put h x).length ≤ 60000 ∧ commit st t h x = commit1 st t h x ∧ (commit1 st t h x).2 = 0 := by
 unfold commit at hc ⊢
 split at hc
 ·rename_i hk
  rw [if_pos hk]
  have hbl : (body h x).length ≤ 1000000000 := by
   have : (put h x).length = (Puts.num ((body h x).length : Int)).length + (body h x).length + 4 := by unfold put; simp only [List.length_append, sum4_len]; omega
   omega
  have hg := good_commit (ok_good hb hk.1) hc hbl
  obtain ⟨_, _, c, d, _, _⟩ := ok_parts hk.1
  obtain ⟨_, _, _, _, _, _, g⟩ := commit1_good hc
  refine ⟨good_ok hg (by rw [g]; simp only [List.length_append]; exact hk.2) ?_, hk.1, hk.2, rfl, hc⟩
  rw [g]
  simp only [List.length_append]
  omega
 ·simp at hc
def Made (t : List Hd) (st : Sto) : Prop := Good st ∧ ∀ g, st.b.length ≤ g → (openF g t st.b 0 new12 0).1.l = st.l ∧ (openF g t st.b 0 new12 0).1.h = st.h ∧ (openF g t st.b 0 new12 0).1.b = st.b
theorem made_new (t : List Hd) : Made t new12 := by
 refine ⟨good_new, fun g _ => ?_⟩
 cases g with
 | zero => exact ⟨rfl, rfl, rfl⟩
 | succ g => exact ⟨rfl, rfl, rfl⟩
theorem open_app {h : Hd} {x : List ByteArray} (t : List Hd) (xs : List Int) (hb : Byt xs) (S : Sto) (hk : okH h = true) (h1 : 1 ≤ x.length) (hlx : x.length ≤ 200) (hbl : (body h x).length ≤ 1000000000) (hS : S.b = xs) (hSl : ∀ T : Sto, T.l = S.l → T.h = S.h → (commit1 T t h x).2 = 0) :
  ∀ (f g a : Nat) (st : Sto) (n m : Nat), a ≤ xs.length → st.b = xs.take a → xs.length - a ≤ f → (xs ++ put h x).length - a ≤ g →
   (openF f t xs a st n).1.l = S.l → (openF f t xs a st n).1.h = S.h → (openF f t xs a st n).1.b = S.b → (openF g t (xs ++ put h x) a st m).1.l = S.l ++ x ∧ (openF g t (xs ++ put h x) a st m).1.h = h ∧ (openF g t (xs ++ put h x) a st m).1.b = S.b ++ put h x := by
 have hp := put_pos h x
 have last : ∀ (g : Nat) (st : Sto) (m : Nat), st.l = S.l → st.h = S.h → st.b = S.b → 1 ≤ g → (openF g t (xs ++ put h x) xs.length st m).1.l = S.l ++ x ∧ (openF g t (xs ++ put h x) xs.length st m).1.h = h ∧ (openF g t (xs ++ put h x) xs.length st m).1.b = S.b ++ put h x := by
  intro g st m e1 e2 e3 hg
  obtain ⟨g, rfl⟩ : ∃ k, g = k + 1 := ⟨g - 1, by omega⟩
  have gp := get_put xs [] hk h1 hlx hbl
  rw [List.append_nil] at gp
  have hc := hSl st e1 e2
  obtain ⟨_, _, _, _, _, _, hs⟩ := commit1_good hc
  rw [openF, if_pos (by rw [List.length_append]; omega), gp]
  simp only [Int.toNat_natCast]
  rw [if_pos ⟨trivial, hc⟩, hs]
  cases g with
  | zero => exact ⟨by rw [openF, e1], rfl, by rw [openF, e3]⟩
  | succ g =>
   rw [openF, if_neg (by rw [List.length_append]; omega)]
   exact ⟨by rw [e1], rfl, by rw [e3]⟩
 intro f
 induction f with
 | zero =>
  intro g a st n m ha hst hf hg e1 e2 e3
  have : a = xs.length := by omega
  subst this
  rw [openF] at e1 e2 e3
  exact last g st m e1 e2 e3 (by rw [List.length_append] at hg; omega)
 | succ f ih =>
  intro g a st n m ha hst hf hg e1 e2 e3
  by_cases hlt : a < xs.length
  ·obtain ⟨h', x', p, ok, hgc⟩ : ∃ h' x' p ok, getC xs (a : Int) = (h', x', p, ok) := ⟨_, _, _, _, rfl⟩
   rw [openF, if_pos hlt, hgc] at e1 e2 e3
   simp only at e1 e2 e3
   by_cases hc : ok = true ∧ (commit1 st t h' x').2 = 0
   ·rw [if_pos hc] at e1 e2 e3
    obtain ⟨rfl, hc⟩ := hc
    obtain ⟨q, rfl, hq, hqx, _, _, _, _, hd⟩ := put_get hb hgc
    have hp' := put_pos h' x'
    obtain ⟨_, _, _, _, _, _, hs⟩ := commit1_good hc
    obtain ⟨g, rfl⟩ : ∃ k, g = k + 1 := ⟨g - 1, by rw [List.length_append] at hg; omega⟩
    have hgm := get_more (r := put h x) hb hgc
    have hst2 : (commit1 st t h' x').1.b = xs.take q := by
     rw [hs]
     simp only
     rw [hst, hq]
     have e5 : xs.take (a + (put h' x').length) = xs.take a ++ (xs.drop a).take (put h' x').length := List.take_add ..
     rw [e5, hd, List.take_append_of_le_length (Nat.le_refl _), List.take_of_length_le (Nat.le_refl _)]
    have r := ih g q (commit1 st t h' x').1 (n + 1) (m + 1) hqx hst2 (by omega) (by omega) e1 e2 e3
    rw [openF, if_pos (by rw [List.length_append]; omega), hgm]
    simp only
    rw [if_pos ⟨trivial, hc⟩]
    exact r
   ·rw [if_neg hc] at e3
    simp only at e3
    rw [hst, hS] at e3
    have := congrArg List.length e3
    rw [List.length_take] at this
    omega
  ·have : a = xs.length := by omega
   subst this
   rw [openF, if_neg hlt] at e1 e2 e3
   exact last g st m e1 e2 e3 (by rw [List.length_append] at hg; omega)
theorem made_commit {t : List Hd} {st : Sto} {h : Hd} {x : List ByteArray} (hm : Made t st) (hc : (commit1 st t h x).2 = 0) (hbl : (body h x).length ≤ 1000000000) : Made t (commit1 st t h x).1 := by
 obtain ⟨a, b, c, d, e, f, g⟩ := commit1_good hc
 refine ⟨good_commit hm.1 hc hbl, fun k hk => ?_⟩
 rw [g] at hk ⊢
 simp only at hk ⊢
 have hlx : x.length ≤ 200 := by rw [List.length_append] at e; omega
 obtain ⟨e1, e2, e3⟩ := hm.2 st.b.length (Nat.le_refl _)
 have hSl : ∀ T : Sto, T.l = st.l → T.h = st.h → (commit1 T t h x).2 = 0 := by
  intro T e4 e5
  rw [f, ← e4]
  rw [commit1_of (by rw [e4, e5]; exact a) d (by rw [e4]; exact e) (by rw [e4, ← f]; exact c)]
 exact open_app t st.b hm.1.2.2 st b d hlx hbl rfl hSl st.b.length k 0 new12 0 0 (Nat.zero_le _) rfl (by omega) (by omega) e1 e2 e3
theorem made_sure {t : List Hd} {st : Sto} (hm : Made t st) (s : Int) : Made t ⟨st.l, st.h, st.b, s⟩ := ⟨⟨hm.1.1, hm.1.2.1, hm.1.2.2⟩, hm.2⟩
end Go.Proofs.YtchonoonclllbaaGreatDoor.Sr
namespace Go.Proofs.YtchonoonclllbaaGreatDoor.GetT
open Go.RowKit Mem Plain
theorem conv_none (ao : Option Addr) (c : Nat) (w : World) : (convert 22 9 (.slice ao 0 c)).run Tryz.prog w = .ok (.string ⟨#[]⟩) w := by
 cases ao with
 | none => rw [run_convert_bytes_string w 22 9 5 none 0 c Tryz.underlying22 Tryz.underlying5 Tryz.underlying9]; rfl
 | some a => exact run_convert_bytes_back w 22 9 5 a c [] Tryz.underlying22 Tryz.underlying5 Tryz.underlying9 (fun j hj => by simp at hj)
theorem conv_some {w : World} {xs : List Int} {b off p n c : Nat} (hb : Byt xs) (hcell : ∀ j, j < xs.length → w.cell? ⟨b, off + j, none⟩ = (bs xs)[j]?) (hn : p + n ≤ xs.length) :
  (convert 22 9 (.slice (some ⟨b, off + p, none⟩) n c)).run Tryz.prog w = .ok (.string (txt ((xs.drop p).take n))) w := by
 have hl : (u8s ((xs.drop p).take n)).length = n := by rw [u8s_len]; simp; omega
 have h := run_convert_bytes_back (P := Tryz.prog) w 22 9 5 ⟨b, off + p, none⟩ c (u8s ((xs.drop p).take n)) Tryz.underlying22 Tryz.underlying5 Tryz.underlying9 (fun j hj => by
  rw [hl] at hj
  rw [Addr.add_lit, Nat.add_assoc, hcell (p + j) (by omega), bs_get]
  have hx : xs[p + j]? = some (xs[p + j]'(by omega)) := by simp
  have hy := hb.at hx
  rw [hx]
  simp only [u8s, List.getElem_map, List.getElem_take, List.getElem_drop, Option.map_some]
  rw [u8_back hy])
 rw [hl] at h
 exact h
theorem rets {s s' : ByteArray} {b b' : Int} {c c' : Bool} (h1 : s = s') (h2 : b = b') (h3 : c = c') : Ending.returned (.tuple #[.string s, .int .i64 b, .bool c]) = .returned (.tuple #[.string s', .int .i64 b', .bool c']) := by rw [h1, h2, h3]
set_option maxRecDepth 1000000 in
theorem text_impl (w : World) (v : Value) (xs : List Int) (at_ : Int) (h : Sl w v (bs xs)) (hb : Byt xs) (hx : xs.length ≤ 140737488355328) (hlo : -9223372036854775808 ≤ at_) (hhi : at_ ≤ 9223372036854775807) :
  Calls Tryz.prog 188 #[v, .int .i64 at_] w fun e w' => e = .returned (.tuple #[.string (getText xs at_).1, .int .i64 (getText xs at_).2.1, .bool (getText xs at_).2.2]) ∧ w' = w := by
 have hget := Gets.get_impl w v xs at_ h hb hx hlo hhi
 obtain ⟨n, p, ok, hr⟩ : ∃ n p ok, getNum xs at_ = (n, p, ok) := ⟨_, _, _, rfl⟩
 rw [hr] at hget
 have HR : Hid (getNum xs at_ = (n, p, ok)) := hr
 clear hr
 obtain ⟨ao, cap, rfl, hc1, hnone, hr1⟩ := h
 rw [bs_len] at hr1 hc1 hget
 rw [bs_len]
 cases ok with
 | false =>
  have HG : Hid (getText xs at_ = (⟨#[]⟩, 0, false)) := getText_no HR.out (.inl rfl)
  go_enter Tryz.func188, Tryz.ntmps188
  go_wp2_with (go_at_call 186; refine hget.mono ?_; rintro e w' ⟨rfl, rfl⟩)
  go_ret3
  exact ⟨by rw [HG.out]; rfl, rfl⟩
 | true =>
  have hbd := getNum_bd HR.out
  obtain ⟨n, rfl⟩ := Int.eq_ofNat_of_zero_le hbd.1
  obtain ⟨p, rfl⟩ := Int.eq_ofNat_of_zero_le (show 0 ≤ p by omega)
  by_cases hbig : (xs.length : Int) - (p : Int) < (n : Int)
  ·have HG : Hid (getText xs at_ = (⟨#[]⟩, 0, false)) := getText_no HR.out (.inr hbig)
   go_enter Tryz.func188, Tryz.ntmps188
   go_wp2_with (go_at_call 186; refine hget.mono ?_; rintro e w' ⟨rfl, rfl⟩)
   go_ret3
   exact ⟨by rw [HG.out]; rfl, rfl⟩
  ·have HG : Hid (getText xs at_ = (txt ((xs.drop p).take n), (p : Int) + (n : Int), true)) := getText_yes HR.out (by omega)
   obtain ⟨b, off, rfl, hcell⟩ := hr1 (by omega)
   by_cases h0 : n = 0
   ·subst h0
    have hconv : ∀ ao c w, (convert 22 9 (.slice ao 0 c)).run Tryz.prog w = .ok (.string ⟨#[]⟩) w := conv_none
    have HT : Hid (txt ((xs.drop p).take 0) = ⟨#[]⟩) := rfl
    clear hr1 hcell
    go_enter Tryz.func188, Tryz.ntmps188
    go_wp2_with (go_at_call 186; refine hget.mono ?_; rintro e w' ⟨rfl, rfl⟩)
    all_goals go_ret3
    all_goals exact ⟨by rw [HG.out]; exact rets rfl (by dsimp only; omega) rfl, rfl⟩
   ·have hconv := conv_some (c := cap - p) hb hcell (show p + n ≤ xs.length by omega)
    clear hr1 hcell
    go_enter Tryz.func188, Tryz.ntmps188
    go_wp2_with (go_at_call 186; refine hget.mono ?_; rintro e w' ⟨rfl, rfl⟩)
    all_goals go_ret3
    all_goals exact ⟨by rw [HG.out]; exact rets rfl (by dsimp only) rfl, rfl⟩
set_option maxRecDepth 1000000 in
theorem text_spec (w : World) (v : Value) (xs : List Int) (at_ : Int) (h : Sl w v (bs xs)) (hb : Byt xs) (hx : xs.length ≤ 140737488355328) (hlo : -9223372036854775808 ≤ at_) (hhi : at_ ≤ 9223372036854775807) :
  Calls Tryz.prog 176 #[v, .int .i64 at_] w fun e w' => e = .returned (.tuple #[.string (getText xs at_).1, .int .i64 (getText xs at_).2.1, .bool (getText xs at_).2.2]) ∧ w' = w := by
 have hget := Gets.get_spec w v xs at_ h hb hx hlo hhi
 obtain ⟨n, p, ok, hr⟩ : ∃ n p ok, getNum xs at_ = (n, p, ok) := ⟨_, _, _, rfl⟩
 rw [hr] at hget
 have HR : Hid (getNum xs at_ = (n, p, ok)) := hr
 clear hr
 obtain ⟨ao, cap, rfl, hc1, hnone, hr1⟩ := h
 rw [bs_len] at hr1 hc1 hget
 rw [bs_len]
 cases ok with
 | false =>
  have HG : Hid (getText xs at_ = (⟨#[]⟩, 0, false)) := getText_no HR.out (.inl rfl)
  go_enter Tryz.func176, Tryz.ntmps176
  go_wp2_with (go_at_call 175; refine hget.mono ?_; rintro e w' ⟨rfl, rfl⟩)
  go_ret3
  exact ⟨by rw [HG.out]; rfl, rfl⟩
 | true =>
  have hbd := getNum_bd HR.out
  obtain ⟨n, rfl⟩ := Int.eq_ofNat_of_zero_le hbd.1
  obtain ⟨p, rfl⟩ := Int.eq_ofNat_of_zero_le (show 0 ≤ p by omega)
  by_cases hbig : (xs.length : Int) - (p : Int) < (n : Int)
  ·have HG : Hid (getText xs at_ = (⟨#[]⟩, 0, false)) := getText_no HR.out (.inr hbig)
   go_enter Tryz.func176, Tryz.ntmps176
   go_wp2_with (go_at_call 175; refine hget.mono ?_; rintro e w' ⟨rfl, rfl⟩)
   go_ret3
   exact ⟨by rw [HG.out]; rfl, rfl⟩
  ·have HG : Hid (getText xs at_ = (txt ((xs.drop p).take n), (p : Int) + (n : Int), true)) := getText_yes HR.out (by omega)
   obtain ⟨b, off, rfl, hcell⟩ := hr1 (by omega)
   by_cases h0 : n = 0
   ·subst h0
    have hconv : ∀ ao c w, (convert 22 9 (.slice ao 0 c)).run Tryz.prog w = .ok (.string ⟨#[]⟩) w := conv_none
    have HT : Hid (txt ((xs.drop p).take 0) = ⟨#[]⟩) := rfl
    clear hr1 hcell
    go_enter Tryz.func176, Tryz.ntmps176
    go_wp2_with (go_at_call 175; refine hget.mono ?_; rintro e w' ⟨rfl, rfl⟩)
    all_goals go_ret3
    all_goals exact ⟨by rw [HG.out]; exact rets rfl (by dsimp only; omega) rfl, rfl⟩
   ·have hconv := conv_some (c := cap - p) hb hcell (show p + n ≤ xs.length by omega)
    clear hr1 hcell
    go_enter Tryz.func176, Tryz.ntmps176
    go_wp2_with (go_at_call 175; refine hget.mono ?_; rintro e w' ⟨rfl, rfl⟩)
    all_goals go_ret3
    all_goals exact ⟨by rw [HG.out]; exact rets rfl (by dsimp only) rfl, rfl⟩
end Go.Proofs.YtchonoonclllbaaGreatDoor.GetT
namespace Go.Proofs.YtchonoonclllbaaGreatDoor.GetTs
open Go.RowKit Mem Plain Laws
theorem one_str (s : ByteArray) : ∀ u ∈ [Value.string s], u.oneCell' = true := by
 intro u hu
 rw [List.mem_singleton] at hu
 rw [hu]
 rfl
theorem Own.emptyS (w : World) (lo : Nat) (h : lo ≤ w.heap.size) : Own (w.alloc (.cells #[] 9)) lo (w.alloc (.cells #[] 9)).heap.size 9 (.slice (some ⟨w.heap.size, 0, none⟩) 0 0) (ss []) :=
 Own.of (World.ownsRow_lit w #[] 0 h (Nat.zero_le _) rfl)
theorem Own.nilS (w : World) (lo hi : Nat) : Own w lo hi 9 (.slice none 0 0) (ss []) :=
 ⟨World.ownsRow_nil w lo 9 1, fun g hg => by simp [Value.ownBlock] at hg⟩
def Done (xs : List Int) (at_ : Int) (w : World) (e : Ending) (w' : World) : Prop :=
 ∃ v' : Value, e = .returned (.tuple #[v', .int .i64 (getTexts xs at_).2.1, .bool (getTexts xs at_).2.2]) ∧ Own w' w.heap.size w'.heap.size 9 v' (ss (getTexts xs at_).1) ∧ Below w.heap.size w w'
theorem done_no {xs : List Int} {at_ : Int} {w w' : World} {v' : Value} (hg : getTexts xs at_ = ([], 0, false)) (ho : Own w' w.heap.size w'.heap.size 9 v' (ss [])) (hb : Below w.heap.size w w') :
  Done xs at_ w (.returned (.tuple #[v', .int .i64 0, .bool false])) w' := by
 unfold Done
 rw [hg]
 exact ⟨v', rfl, ho, hb⟩
theorem done_yes {xs : List Int} {at_ q : Int} {l : List ByteArray} {w w' : World} {v' : Value} (hg : getTexts xs at_ = (l, q, true)) (ho : Own w' w.heap.size w'.heap.size 9 v' (ss l)) (hb : Below w.heap.size w w') :
  Done xs at_ w (.returned (.tuple #[v', .int .i64 q, .bool true])) w' := by
 unfold Done
 rw [hg]
 exact ⟨v', rfl, ho, hb⟩
set_option maxRecDepth 1000000 in
theorem texts_impl (w : World) (v : Value) (xs : List Int) (at_ : Int) (h : Sl w v (bs xs)) (hb : Byt xs) (hx : xs.length ≤ 140737488355328) (hlo : -9223372036854775808 ≤ at_) (hhi : at_ ≤ 9223372036854775807) :
  Calls Tryz.prog 189 #[v, .int .i64 at_] w fun e w' => Done xs at_ w e w' := by
 obtain ⟨i0, hi, hz0, hz1, hz2⟩ := info_parts Strs.info9
 have hget := Gets.get_impl w v xs at_ h hb hx hlo hhi
 obtain ⟨n, p, ok, hr⟩ : ∃ n p ok, getNum xs at_ = (n, p, ok) := ⟨_, _, _, rfl⟩
 rw [hr] at hget
 have HR : Hid (getNum xs at_ = (n, p, ok)) := hr
 clear hr
 cases ok with
 | false =>
  have HG : Hid (getTexts xs at_ = ([], 0, false)) := getTexts_no HR.out (.inl rfl)
  go_enter Tryz.func189, Tryz.ntmps189
  go_wp2_with (go_at_call 186; refine hget.mono ?_; rintro e w' ⟨rfl, rfl⟩)
  go_ret3
  exact done_no HG.out (Own.nilS _ _ _) (Below.refl _ _)
 | true =>
  have hbd := getNum_bd HR.out
  obtain ⟨n, rfl⟩ := Int.eq_ofNat_of_zero_le hbd.1
  by_cases hbig : (200 : Int) < (n : Int)
  ·have HG : Hid (getTexts xs at_ = ([], 0, false)) := getTexts_no HR.out (.inr hbig)
   go_enter Tryz.func189, Tryz.ntmps189
   go_wp2_with (go_at_call 186; refine hget.mono ?_; rintro e w' ⟨rfl, rfl⟩)
   go_ret3
   exact done_no HG.out (Own.nilS _ _ _) (Below.refl _ _)
  ·have hn2 : n ≤ 200 := by omega
   have hlater : ∀ w', Below w.heap.size w w' → Sl w' v (bs xs) := fun w' hb => h.later hb
   go_enter Tryz.func189, Tryz.ntmps189
   go_wp2_with (first | (go_at_call 186; refine hget.mono ?_; rintro e wy ⟨rfl, hwy⟩; have hwy := hwy.symm; subst hwy) | (at_make; refine wpList_make_own _ rfl _ _ 24 rfl w.heap.size 9 i0 (.string ⟨#[]⟩) 1 Tryz.underlying24 hi hz0 hz1 _ _ _ n rfl rfl rfl (by rw [hz2]; omega) (by unfold maxLen; omega) (Nat.le_refl _) ?_))
   intro w1 hown hgrow
   have hbel : Below w.heap.size w w1 := (Below.refl _ _).grown hgrow (Nat.le_refl _) (by simp)
   have hown1 : Own w1 w.heap.size w1.heap.size 9 (.slice (some ⟨w.heap.size, 0, none⟩) 0 n) (ss []) := Own.of hown
   clear hget hgrow hown
   go_wp2
   go_loopw [8, 10, 30] (fun nx lv i wr => ∃ (k : Nat) (acc : List ByteArray) (q : Int), k ≤ n ∧ i = .int .i64 k ∧ nx = .int .i64 q ∧ 0 ≤ q ∧ q ≤ xs.length ∧ acc.length = k ∧ rd xs n p = (rd xs (n - k) q).map (fun r => (acc ++ r.1, r.2)) ∧ Own wr w.heap.size wr.heap.size 9 lv (ss acc) ∧ Below w.heap.size w wr) (fun _ _ i _ => n - (intOf i).toNat)
   case atStart => exact ⟨0, [], p, Nat.zero_le _, rfl, rfl, by omega, by omega, rfl, by simp, hown1, hbel⟩
   case round =>
    obtain ⟨k, acc, q, hk, rfl, rfl, hq0, hq1, hacc, hD0, ho, hbr⟩ := hrel
    have HD : Hid (acc.length = k ∧ rd xs n p = (rd xs (n - k) q).map (fun r => (acc ++ r.1, r.2))) := ⟨hacc, hD0⟩
    have hsz := hbr.size
    clear hD0 hacc hown1 hbel
    by_cases hlt : k < n
    ·have htxt := GetT.text_impl wr v xs q (hlater wr hbr) hb hx (by omega) (by omega)
     obtain ⟨s, q2, ok2, hr2⟩ : ∃ s q2 ok2, getText xs q = (s, q2, ok2) := ⟨_, _, _, rfl⟩
     rw [hr2] at htxt
     have HT : Hid (getText xs q = (s, q2, ok2)) := hr2
     clear hr2
     obtain ⟨m, hm⟩ : ∃ m, n - k = m + 1 := ⟨n - k - 1, by omega⟩
     cases ok2 with
     | false =>
      have HG : Hid (getTexts xs at_ = ([], 0, false)) := getTexts_none HR.out hn2 (by rw [HD.out.2, hm, rd_no HT.out]; rfl)
      clear HD hm
      go_wp2_with (go_at_call 188; refine htxt.mono ?_; rintro e wy ⟨rfl, hwy⟩; have hwy := hwy.symm; subst hwy)
      go_ret3
      exact done_no HG.out (Own.nilS _ _ _) hbr
     | true =>
      have hbt := getText_bd HT.out
      have HN : Hid ((acc ++ [s]).length = k + 1 ∧ rd xs n p = (rd xs (n - (k + 1)) q2).map (fun r => ((acc ++ [s]) ++ r.1, r.2))) := by
       refine ⟨by rw [List.length_append, HD.out.1]; rfl, ?_⟩
       rw [HD.out.2, hm, rd_yes HT.out, show n - (k + 1) = m by omega, Option.map_map]
       simp [Function.comp_def]
      have c2 : (ss acc).length + 1 ≤ maxLen := by rw [ss_len, HD.out.1]; unfold maxLen; omega
      have c3 : ((ss acc).length + 1) * 16 ≤ 140737488355328 := by rw [ss_len, HD.out.1]; omega
      have c4 : ∀ o, w.heap.size ≤ (wr.alloc o).heap.size := fun o => by simp; omega
      clear HD hm
      go_wp2_with (first | (go_at_call 188; refine htxt.mono ?_; rintro e wy ⟨rfl, hwy⟩; have hwy := hwy.symm; subst hwy) | (at_builtin; go_must (refine wpl_app _ rfl (.tmp 41) (.tmp 43) 24 rfl 9 i0 (.string ⟨#[]⟩) 16 Tryz.underlying24 hi hz0 hz1 hz2 rfl w.heap.size _ (ss acc) rfl (ho.alloc _) _ rfl [.string s] (Sl.one _ _ _) (one_str _) c2 c3 (c4 _) ?_); intro v3 w3 ho3 hb3 hg3))
      have hb4 : Below w.heap.size w w3 := (hbr.alloc hsz _).trans hb3
      have ho4 : Own w3 w.heap.size w3.heap.size 9 v3 (ss (acc ++ [s])) := by rw [ss_app]; exact ho3
      go_roundw
      case rel => exact ⟨k + 1, acc ++ [s], q2, by omega, by go_num, rfl, by omega, by omega, HN.out.1, HN.out.2, ho4, hb4⟩
      case measure => simp [intOf]; omega
    ·have hkn : k = n := by omega
     have HG : Hid (getTexts xs at_ = (acc, q, true)) := getTexts_some HR.out hn2 (by rw [HD.out.2, hkn, Nat.sub_self]; simp [rd])
     clear HD
     go_wp2
     go_ret3
     exact done_yes HG.out ho hbr
set_option maxRecDepth 1000000 in
theorem texts_spec (w : World) (v : Value) (xs : List Int) (at_ : Int) (h : Sl w v (bs xs)) (hb : Byt xs) (hx : xs.length ≤ 140737488355328) (hlo : -9223372036854775808 ≤ at_) (hhi : at_ ≤ 9223372036854775807) :
  Calls Tryz.prog 177 #[v, .int .i64 at_] w fun e w' => Done xs at_ w e w' := by
 obtain ⟨i0, hi, hz0, hz1, hz2⟩ := info_parts Strs.info9
 have hget := Gets.get_spec w v xs at_ h hb hx hlo hhi
 obtain ⟨n, p, ok, hr⟩ : ∃ n p ok, getNum xs at_ = (n, p, ok) := ⟨_, _, _, rfl⟩
 rw [hr] at hget
 have HR : Hid (getNum xs at_ = (n, p, ok)) := hr
 clear hr
 cases ok with
 | false =>
  have HG : Hid (getTexts xs at_ = ([], 0, false)) := getTexts_no HR.out (.inl rfl)
  go_enter Tryz.func177, Tryz.ntmps177
  go_wp2_with (go_at_call 175; refine hget.mono ?_; rintro e w' ⟨rfl, rfl⟩)
  go_ret3
  exact done_no HG.out (Own.emptyS _ _ (Nat.le_refl _)) ((Below.refl _ _).alloc (Nat.le_refl _) _)
 | true =>
  have hbd := getNum_bd HR.out
  obtain ⟨n, rfl⟩ := Int.eq_ofNat_of_zero_le hbd.1
  by_cases hbig : (200 : Int) < (n : Int)
  ·have HG : Hid (getTexts xs at_ = ([], 0, false)) := getTexts_no HR.out (.inr hbig)
   go_enter Tryz.func177, Tryz.ntmps177
   go_wp2_with (go_at_call 175; refine hget.mono ?_; rintro e w' ⟨rfl, rfl⟩)
   go_ret3
   exact done_no HG.out (Own.emptyS _ _ (Nat.le_refl _)) ((Below.refl _ _).alloc (Nat.le_refl _) _)
  ·have hn2 : n ≤ 200 := by omega
   have hlater : ∀ w', Below w.heap.size w w' → Sl w' v (bs xs) := fun w' hb => h.later hb
   go_enter Tryz.func177, Tryz.ntmps177
   go_wp2_with (go_at_call 175; refine hget.mono ?_; rintro e wy ⟨rfl, hwy⟩; have hwy := hwy.symm; subst hwy)
   have hbel : Below w.heap.size w (w.alloc (.cells #[] 9)) := (Below.refl _ _).alloc (Nat.le_refl _) _
   have hown1 := Own.emptyS w w.heap.size (Nat.le_refl _)
   clear hget
   go_loopw [8, 10, 11] (fun nx lv i wr => ∃ (k : Nat) (acc : List ByteArray) (q : Int), k ≤ n ∧ i = .int .i64 k ∧ nx = .int .i64 q ∧ 0 ≤ q ∧ q ≤ xs.length ∧ acc.length = k ∧ rd xs n p = (rd xs (n - k) q).map (fun r => (acc ++ r.1, r.2)) ∧ Own wr w.heap.size wr.heap.size 9 lv (ss acc) ∧ Below w.heap.size w wr) (fun _ _ i _ => n - (intOf i).toNat)
   case atStart => exact ⟨0, [], p, Nat.zero_le _, rfl, rfl, by omega, by omega, rfl, by simp, hown1, hbel⟩
   case round =>
    obtain ⟨k, acc, q, hk, rfl, rfl, hq0, hq1, hacc, hD0, ho, hbr⟩ := hrel
    have HD : Hid (acc.length = k ∧ rd xs n p = (rd xs (n - k) q).map (fun r => (acc ++ r.1, r.2))) := ⟨hacc, hD0⟩
    have hsz := hbr.size
    clear hD0 hacc hown1 hbel
    by_cases hlt : k < n
    ·have htxt := GetT.text_spec wr v xs q (hlater wr hbr) hb hx (by omega) (by omega)
     obtain ⟨s, q2, ok2, hr2⟩ : ∃ s q2 ok2, getText xs q = (s, q2, ok2) := ⟨_, _, _, rfl⟩
     rw [hr2] at htxt
     have HT : Hid (getText xs q = (s, q2, ok2)) := hr2
     clear hr2
     obtain ⟨m, hm⟩ : ∃ m, n - k = m + 1 := ⟨n - k - 1, by omega⟩
     cases ok2 with
     | false =>
      have HG : Hid (getTexts xs at_ = ([], 0, false)) := getTexts_none HR.out hn2 (by rw [HD.out.2, hm, rd_no HT.out]; rfl)
      clear HD hm
      go_wp2_with (go_at_call 176; refine htxt.mono ?_; rintro e wy ⟨rfl, hwy⟩; have hwy := hwy.symm; subst hwy)
      go_ret3
      exact done_no HG.out (Own.emptyS _ _ hsz) (hbr.alloc hsz _)
     | true =>
      have hbt := getText_bd HT.out
      have HN : Hid ((acc ++ [s]).length = k + 1 ∧ rd xs n p = (rd xs (n - (k + 1)) q2).map (fun r => ((acc ++ [s]) ++ r.1, r.2))) := by
       refine ⟨by rw [List.length_append, HD.out.1]; rfl, ?_⟩
       rw [HD.out.2, hm, rd_yes HT.out, show n - (k + 1) = m by omega, Option.map_map]
       simp [Function.comp_def]
      have c2 : (ss acc).length + 1 ≤ maxLen := by rw [ss_len, HD.out.1]; unfold maxLen; omega
      have c3 : ((ss acc).length + 1) * 16 ≤ 140737488355328 := by rw [ss_len, HD.out.1]; omega
      have c4 : ∀ o, w.heap.size ≤ (wr.alloc o).heap.size := fun o => by simp; omega
      clear HD hm
      go_wp2_with (first | (go_at_call 176; refine htxt.mono ?_; rintro e wy ⟨rfl, hwy⟩; have hwy := hwy.symm; subst hwy) | (at_builtin; go_must (refine wpl_app _ rfl (.tmp 45) (.tmp 47) 24 rfl 9 i0 (.string ⟨#[]⟩) 16 Tryz.underlying24 hi hz0 hz1 hz2 rfl w.heap.size _ (ss acc) rfl (ho.alloc _) _ rfl [.string s] (Sl.one _ _ _) (one_str _) c2 c3 (c4 _) ?_); intro v3 w3 ho3 hb3 hg3))
      have hb4 : Below w.heap.size w w3 := (hbr.alloc hsz _).trans hb3
      have ho4 : Own w3 w.heap.size w3.heap.size 9 v3 (ss (acc ++ [s])) := by rw [ss_app]; exact ho3
      go_roundw
      case rel => exact ⟨k + 1, acc ++ [s], q2, by omega, by go_num, rfl, by omega, by omega, HN.out.1, HN.out.2, ho4, hb4⟩
      case measure => simp [intOf]; omega
    ·have hkn : k = n := by omega
     have HG : Hid (getTexts xs at_ = (acc, q, true)) := getTexts_some HR.out hn2 (by rw [HD.out.2, hkn, Nat.sub_self]; simp [rd])
     clear HD
     go_wp2
     go_ret3
     exact done_yes HG.out ho hbr
end Go.Proofs.YtchonoonclllbaaGreatDoor.GetTs
namespace Go.Proofs.YtchonoonclllbaaGreatDoor.Sr
open Go.RowKit Mem Laws Bytes Sha Tr He Lg
theorem dig4 (Y : List Int) : (Plain.txt (digest Y)).size = 32 ∧ ((Plain.txt (digest Y)).extract 0 4).size = 4 ∧ sb ((Plain.txt (digest Y)).extract 0 4) = sum4 Y := by
 have h32 : (Plain.txt (digest Y)).size = 32 := by rw [txt_size, digest_len]
 have e : sb (Plain.txt (digest Y)) = digest Y := sb_txt (digest_byt Y)
 have e2 : sb ((Plain.txt (digest Y)).extract 0 4) = (sb (Plain.txt (digest Y))).take 4 := by
  unfold sb
  rw [ByteArray.data_extract, Array.toList_extract, ← List.map_take]
  simp [List.extract]
 refine ⟨h32, ?_, ?_⟩
 ·have h4 : (sb ((Plain.txt (digest Y)).extract 0 4)).length = 4 := by rw [e2, e, List.length_take, digest_len]; rfl
  rw [sb_len] at h4
  exact h4
 ·rw [e2, e]; rfl
set_option maxRecDepth 1000000 in
theorem put_spec (w : World) (h : Hd) (v : Value) (x : List ByteArray) (hs : Sl w v (ss x)) (hl : x.length ≤ 1000000000) (ht : Puts.tot x ≤ 100000000000) (hr : h.r.size ≤ 100000000000) :
  Calls Tryz.prog 136 #[.agg #[.int .i64 h.n, .string h.r], v] w fun e w' => ∃ v', e = .returned v' ∧ Own w' w.heap.size w'.heap.size 5 v' (bs (put h x)) ∧ Below w.heap.size w w' := by
 have HS : Hid (Sl w v (ss x)) := hs
 have htl := Puts.txs_len x
 have hbl := body_len h x
 have n1 := (Puts.num_len h.n).2
 have n2 := Puts.tx_len h.r
 obtain ⟨ao0, cap0, rfl, hc0⟩ := hs.form
 rw [ss_len] at *
 clear hs
 have B0 : Hid (Below w.heap.size w w) := Below.refl _ _
 have HT : Hid ((Puts.txs x).length ≤ 5 * x.length + Puts.tot x) := htl
 clear htl
 obtain ⟨i5, hi5, hz5a, hz5b, hz5c⟩ := info_parts info5
 obtain ⟨W1, HW1, b1, y1, hS1, r_h1⟩ := Ke.l1 w #[.int .i64 h.n, .string h.r] 26
 have z1 := b1.size
 have B1 := Ke.b B0 b1
 have c_h1 := Ke.c r_h1
 go_enter Tryz.func136, Tryz.ntmps136
 go_wp2_with fail
 rw [HW1.out]
 refine wp_region_held_drew (S := fun w' => w'.cell? ⟨w.heap.size, 0, none⟩ = some (.int .i64 h.n) ∧ w'.cell? ⟨w.heap.size, 1, none⟩ = some (.string h.r)) (by kernel_rfl) ⟨(c_h1 0), (c_h1 1)⟩ (fun hHeld => ?_)
 refine Ke.q 1 ?_; try simp only [Act.put, pq]
 refine Ke.q 2 ?_; try simp only [Act.put, pq]
 refine Ke.q 4 ?_; try simp only [Act.put, pq]
 refine Ke.q 5 ?_; try simp only [Act.put, pq]
 refine Ke.q 7 ?_; try simp only [Act.put, pq]
 refine Ke.z 0 rfl (fun K hK => ?_)
 go_simp
 refine hK.out _ _ ⟨(keepR (W := W1.drew) hHeld.1 ((Below.refl _ _).alloc (Nat.le_refl _) _)), (keepR (W := W1.drew) hHeld.2 ((Below.refl _ _).alloc (Nat.le_refl _) _))⟩ (fun hHeld => ?_)
 clear hK K
 try simp only [Act.put, pq]
 obtain ⟨W2, HW2, b2, o_e2⟩ : ∃ X, Hid ((W1.alloc (.cells #[] 5)).drew = X) ∧ Below W1.heap.size W1 X ∧ Hid (Own X W1.heap.size X.heap.size 5 (.slice (some ⟨W1.heap.size, 0, none⟩) 0 0) (bs [])) := ⟨_, rfl, (Below.drew ((Below.refl _ _).alloc (Nat.le_refl _) _)), Puts.Own.empty W1 W1.heap.size (Nat.le_refl _)⟩
 have HHW2 := HW2.out
 rw [HHW2] at hHeld ⊢
 clear HHW2
 have z2 := b2.size
 have B2 := Ke.b B1 b2
 clear r_h1 c_h1
 refine Ke.z 3 rfl (fun K hK => ?_)
 go_simp
 refine (Puts.put_spec W2 _ [] h.n o_e2.out.sl (by simp)).mono ?_
 rintro e W3 ⟨v_a, rfl, o_a3, b3⟩
 refine hK.out _ _ ⟨(keepR (W := W2) hHeld.1 b3), (keepR (W := W2) hHeld.2 b3)⟩ (fun hHeld => ?_)
 clear hK K
 try simp only [Act.put, pq]
 obtain ⟨ao_a, L_a, cap_a, rfl, hL_a, hM_a⟩ := o_a3.form
 have o_a3 : Hid (Own W3 W2.heap.size W3.heap.size 5 (.slice ao_a L_a cap_a) (bs ([] ++ Puts.num h.n))) := o_a3
 clear hL_a hM_a
 have z3 := b3.size
 have B3 := Ke.b B2 b3
 clear o_e2
 refine Ke.z 6 rfl (fun K hK => ?_)
 go_simp
 refine (Puts.putt_spec W3 _ ([] ++ Puts.num h.n) h.r o_a3.out.sl (by rw [List.nil_append]; omega) (by omega)).mono ?_
 rintro e W4 ⟨v_b, rfl, o_b4, b4⟩
 refine hK.out _ _ ⟨(keepR (W := W3) hHeld.1 b4), (keepR (W := W3) hHeld.2 b4)⟩ (fun hHeld => ?_)
 clear hK K
 try simp only [Act.put, pq]
 obtain ⟨ao_b, L_b, cap_b, rfl, hL_b, hM_b⟩ := o_b4.form
 have o_b4 : Hid (Own W4 W3.heap.size W4.heap.size 5 (.slice ao_b L_b cap_b) (bs ([] ++ Puts.num h.n ++ Puts.tx h.r))) := o_b4
 clear hL_b hM_b
 have z4 := b4.size
 have B4 := Ke.b B3 b4
 clear o_a3
 refine Ke.z 8 rfl (fun K hK => ?_)
 go_simp
 refine (Puts.putts_spec W4 _ _ ([] ++ Puts.num h.n ++ Puts.tx h.r) x o_b4.out.sl (HS.out.later B4.out) (by have := HT.out; rw [List.nil_append, List.length_append]; omega) (by omega)).mono ?_
 rintro e W5 ⟨v_c, rfl, o_c5, b5⟩
 refine hK.out _ _ ⟨(keepR (W := W4) hHeld.1 b5), (keepR (W := W4) hHeld.2 b5)⟩ (fun hHeld => ?_)
 clear hK K
 try simp only [Act.put, pq]
 obtain ⟨ao_c, L_c, cap_c, rfl, hL_c, hM_c⟩ := o_c5.form
 have o_c5 : Hid (Own W5 W4.heap.size W5.heap.size 5 (.slice ao_c L_c cap_c) (bs ([] ++ Puts.num h.n ++ Puts.tx h.r ++ Puts.num (x.length : Int) ++ Puts.txs x))) := o_c5
 clear hL_c hM_c
 have z5 := b5.size
 have B5 := Ke.b B4 b5
 clear o_b4
 refine Ke.q 9 ?_; try simp only [Act.put, pq]
 refine wpAnyH_done (by kernel_rfl) ?_ _
 clear hHeld
 obtain ⟨Y, hY⟩ : ∃ Y, body h x = Y := ⟨_, rfl⟩
 have o_c5 : Hid (Own W5 (W4.heap.size) (W5.heap.size) 5 (.slice ao_c L_c cap_c) (bs Y)) := by show Own _ _ _ _ _ _; have h9 := o_c5.out; have e9 : [] ++ Puts.num h.n ++ Puts.tx h.r ++ Puts.num (x.length : Int) ++ Puts.txs x = Y := by { rw [← hY]; unfold body; simp only [List.nil_append, List.append_assoc] }; rw [e9] at h9; exact h9
 have hLc : L_c ≤ Y.length ∧ Y.length ≤ L_c := by obtain ⟨a9, L9, c9, he, h1, h2⟩ := Mem.Own.form o_c5.out; injection he with _ he2 _; rw [bs_len] at h1 h2; omega
 have hYb : Y.length ≤ h.r.size + 15 + 5 * x.length + Puts.tot x := by rw [← hY]; exact hbl
 have hYB : Byt Y := by rw [← hY]; exact body_byt h x
 have HY : Hid (body h x = Y) := hY
 have HYB : Hid (Byt Y) := hYB
 clear hY hbl hYB
 obtain ⟨W6, HW6, b6, o_n6⟩ : ∃ X, Hid ((W5.alloc (.cells #[] 5)) = X) ∧ Below W5.heap.size W5 X ∧ Hid (Own X W5.heap.size X.heap.size 5 (.slice (some ⟨W5.heap.size, 0, none⟩) 0 0) (bs [])) := ⟨_, rfl, (Below.refl _ _).alloc (Nat.le_refl _) _, Puts.Own.empty W5 W5.heap.size (Nat.le_refl _)⟩
 have z6 := b6.size
 have B6 := Ke.b B5 b6
 have o_c6 := Ke.o o_c5 b6
 clear o_c5
 have hLe : (L_c : Int) = (Y.length : Int) := by omega
 have HLE : Hid ((L_c : Int) = (Y.length : Int)) := hLe
 clear hLe
 go_wp2_with fail
 rw [HW6.out]
 refine (Puts.put_spec W6 _ [] (L_c : Int) o_n6.out.sl (by simp)).mono ?_
 rintro e W7 ⟨v_m, rfl, o_m7, b7⟩
 obtain ⟨ao_m, L_m, cap_m, rfl, hL_m, hM_m⟩ := o_m7.form
 have o_m7 : Hid (Own W7 W6.heap.size W7.heap.size 5 (.slice ao_m L_m cap_m) (bs ([] ++ Puts.num (L_c : Int)))) := o_m7
 clear hL_m hM_m
 have z7 := b7.size
 have B7 := Ke.b B6 b7
 have o_c7 := Ke.o o_c6 b7
 clear o_c6 o_n6
 obtain ⟨N, hN⟩ : ∃ N, Puts.num (L_c : Int) = N := ⟨_, rfl⟩
 have n3 := (Puts.num_len (L_c : Int)).2
 rw [hN] at n3
 have o_m7 : Hid (Own W7 (W6.heap.size) (W7.heap.size) 5 (.slice ao_m L_m cap_m) (bs N)) := by show Own _ _ _ _ _ _; have h9 := o_m7.out; rw [hN, List.nil_append] at h9; exact h9
 have HN : Hid (Puts.num (Y.length : Int) = N) := by show _ = _; rw [← HLE.out, hN]
 clear hN
 have c6_8 : (bs N).length + (bs Y).length ≤ maxLen := by rw [bs_len, bs_len]; unfold maxLen; (try simp only [List.length_nil]); omega
 have c7_8 : ((bs N).length + (bs Y).length) * 1 ≤ 140737488355328 := by rw [bs_len, bs_len]; (try simp only [List.length_nil]); omega
 have sE8 : Hid (Sl W7 _ (bs Y)) := o_c7.out.sl
 go_wp2_with (at_builtin; go_must (refine wpl_app _ rfl (.tmp 19) (.tmp 20) 22 rfl 5 i5 (.int .u8 0) 1 Tryz.underlying22 hi5 hz5a hz5b hz5c rfl (W6.heap.size) _ (bs N) rfl (Own.mono o_m7.out (Nat.le_refl _) (by omega)) _ rfl (bs Y) sE8.out (bs_one Y) c6_8 c7_8 (by omega) ?_))
 intro v_p W8 o_p8 _ g8
 have o_p8 : Own W8 (W6.heap.size) W8.heap.size 5 v_p (bs (N ++ Y)) := by show Own _ _ _ _ _ _; rw [bs_app]; exact o_p8
 have o_p8h : Hid (Own W8 (W6.heap.size) W8.heap.size 5 v_p (bs (N ++ Y))) := o_p8
 clear o_p8
 have o_p8 := o_p8h
 clear o_p8h
 obtain ⟨ao_p, L_p, cap_p, rfl, _, _⟩ := Mem.Own.form o_p8.out
 have z8 := g8.size
 have B8 : Hid (Below w.heap.size w W8) := belowGro B7.out g8 B7.out.size (Own.low o_m7.out (by have := B7.out.size; omega))
 have o_c8 : Hid (Own W8 (W4.heap.size) (W5.heap.size) 5 (.slice ao_c L_c cap_c) (bs Y)) := Own.gro o_c7.out g8 (Own.neFar o_m7.out o_c7.out (by omega))
 clear o_c7 o_m7
 clear g8 sE8 c6_8 c7_8
 obtain ⟨d1, d2, d3⟩ := dig4 Y
 have qd : ∀ W v1, Sl W v1 (bs Y) → _ := fun W v1 h1 => digest_spec W v1 Y h1 HYB.out (by omega)
 obtain ⟨D, hD⟩ : ∃ D, Plain.txt (digest Y) = D := ⟨_, rfl⟩
 rw [hD] at d1 d2 d3
 simp only [hD] at qd
 have dd : ¬ ((D.size : Int) < 4) := by omega
 have dn : 4 ≤ D.size := by omega
 obtain ⟨T, hT⟩ : ∃ T, D.extract 0 4 = T := ⟨_, rfl⟩
 rw [hT] at d2 d3
 have HT4 : Hid (sb T = sum4 Y) := d3
 have hTs : T.size ≤ 4 := by omega
 clear d1 d2 d3 hD
 go_wp2_with fail
 refine (qd W8 _ o_c8.out.sl).mono ?_
 rintro e W9 ⟨rfl, b9⟩
 have z9 := b9.size
 have B9 := Ke.b B8 b9
 have o_p9 := Ke.o o_p8 b9
 clear o_c8 o_p8
 have c6_10 : ((N ++ Y)).length + (T).size ≤ 140737488355328 := by rw [List.length_append]; omega
 go_wp2_with (at_builtin; go_must (refine wpl_strG _ rfl (.tmp 22) (.tmp 25) 22 9 rfl 5 i5 Tryz.underlying22 Tryz.underlying9 hi5 hz5a hz5b hz5c (W6.heap.size) _ ((N ++ Y)) rfl (Own.mono o_p9.out (Nat.le_refl _) (by omega)) (T) rfl c6_10 (by omega) ?_))
 intro v_z W10 o_z10 g10
 have o_z10 : Own W10 (W6.heap.size) W10.heap.size 5 v_z (bs (N ++ (Y ++ sb T))) := o_z10
 have o_z10h : Hid (Own W10 (W6.heap.size) W10.heap.size 5 v_z (bs (N ++ (Y ++ sb T)))) := o_z10
 clear o_z10
 have o_z10 := o_z10h
 clear o_z10h
 obtain ⟨ao_z, L_z, cap_z, rfl, _, _⟩ := Mem.Own.form o_z10.out
 have z10 := g10.size
 have B10 : Hid (Below w.heap.size w W10) := belowGro B9.out g10 B9.out.size (Own.low o_p9.out (by have := B9.out.size; omega))
 clear o_p9
 clear g10 c6_10
 go_wp2
 go_ret
 refine ⟨_, rfl, ?_, B10.out⟩
 have e9 : put h x = N ++ (Y ++ sb T) := by unfold put; rw [HY.out, HN.out, HT4.out]
 rw [e9]
 exact Own.mono o_z10.out (by omega) (Nat.le_refl _)
end Go.Proofs.YtchonoonclllbaaGreatDoor.Sr
