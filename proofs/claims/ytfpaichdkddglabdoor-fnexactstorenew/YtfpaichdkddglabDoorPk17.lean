/- Texts in one: Sr6. -/
import Derived.Test.YtfpaichdkddglabDoorPk12
import Derived.Test.YtfpaichdkddglabDoorPk16
/- Chapter 12: what the landed code comes to, held against the specification; plain facts alone. -/
namespace Go.Proofs.YtfpaichdkddglabDoor.Sr
open Go.RowKit Go.Proofs.YtfpaichdkddglabDoor.Mem Go.Proofs.YtfpaichdkddglabDoor.Laws Go.Proofs.YtfpaichdkddglabDoor.Sha Go.Proofs.YtfpaichdkddglabDoor.Tr Go.Proofs.YtfpaichdkddglabDoor.He Go.Proofs.YtfpaichdkddglabDoor.Lg
set_option linter.unusedVariables false
set_option linter.unusedSimpArgs false

/-- a commit by the landed code to a store that is taken as right, and to any -/
def commitQ (st : Sto) (t : List Hd) (h : Hd) (x : List ByteArray) : Sto × Int := if st.b.length + (putC h x).length ≤ 60000 then commit1 st t h x else (st, 1)
def commitP (st : Sto) (t : List Hd) (h : Hd) (x : List ByteArray) : Sto × Int := if storeOk st = true then commitQ st t h x else (st, 1)
theorem putC_yes {h : Hd} {x : List ByteArray} (hk : okH h = true) (h1 : 1 ≤ x.length) (h2 : x.length ≤ 200) : putC h x = put h x := by unfold putC; rw [if_pos ⟨hk, h1, h2⟩]
theorem extend_bad {l x : List ByteArray} {hd h : Hd} {t : List Hd} (hk : ¬ (okH h = true ∧ x.length ≤ 200)) : extend l hd t h x = (l, hd, 1) := by
  refine extend1 (fun q => hk ⟨q.2.1, ?_⟩) t
  have := (okH_parts q.2.1).2.1
  have h2 := q.2.2
  rw [List.length_append] at h2
  omega
theorem commitP_eq {st : Sto} {t : List Hd} {h : Hd} {x : List ByteArray} (hx : 1 ≤ x.length ∨ st.b.length + (put h x).length ≤ 60000) : commitP st t h x = commit st t h x := by
  unfold commitP commitQ commit
  by_cases hk : okH h = true ∧ 1 ≤ x.length ∧ x.length ≤ 200
  · rw [putC_yes hk.1 hk.2.1 hk.2.2]
    by_cases h1 : storeOk st = true
    · by_cases h2 : st.b.length + (put h x).length ≤ 60000
      · simp [h1, h2]
      · simp [h1, h2]
    · simp [h1]
  · have hp : putC h x = [] := by unfold putC; rw [if_neg hk]
    rw [hp]
    by_cases h0 : 1 ≤ x.length
    · have hc : commit1 st t h x = (st, 1) := by
        unfold commit1
        rw [extend_bad (fun q => hk ⟨q.1, h0, q.2⟩), if_neg (by simp)]
      rw [hc]
      simp
    · have h2 : st.b.length + (put h x).length ≤ 60000 := by rcases hx with hx | hx; exact absurd hx h0; exact hx
      have h3 : st.b.length + ([] : List Int).length ≤ 60000 := by simp; omega
      rw [if_pos h3]
      by_cases h1 : storeOk st = true
      · simp [h1, h2]
      · simp [h1]
/-- with no texts a commit has few bytes -/
theorem put_small (h : Hd) (x : List ByteArray) (hx : x.length = 0) : (put h x).length ≤ h.r.size + 24 := by
  have h1 := put_len h x
  have h2 := body_len h x
  obtain rfl : x = [] := List.eq_nil_of_length_eq_zero hx
  have h3 : Puts.tot [] = 0 := rfl
  simp only [List.length_nil] at h2
  omega
theorem commitP_small {st : Sto} {t : List Hd} {h : Hd} {x : List ByteArray} (hb : st.b.length ≤ 50000) (hr : h.r.size ≤ 1000) : commitP st t h x = commit st t h x := by
  refine commitP_eq ?_
  by_cases h0 : 1 ≤ x.length
  · exact Or.inl h0
  · have := put_small h x (by omega)
    exact Or.inr (by omega)

/-- the texts of a replay only grow -/
theorem replay_pre (xs : List Int) : ∀ (f a : Nat) (l : List ByteArray) (hd : Hd), l <+: (replayF f xs a l hd).1 := by
  intro f
  induction f with
  | zero => intro a l hd; exact List.prefix_refl _
  | succ f ih2 =>
    intro a l hd
    rw [replayF]
    split
    · split
      · split
        · exact (List.prefix_append _ _).trans (ih2 _ _ _)
        · exact List.prefix_append _ _
      · exact List.prefix_refl _
    · exact List.prefix_refl _
/-- whether commits from a place on, behind l, make T -/
def fin12 (xs : List Int) (T : List ByteArray) (f a : Nat) (l : List ByteArray) (hd : Hd) : Bool := (replayF f xs a l hd).2.2 && decide ((replayF f xs a l hd).1 = T)
theorem fin_end {xs : List Int} {T l : List ByteArray} {f a : Nat} {hd : Hd} (h : ¬ a < xs.length) : fin12 xs T f a l hd = decide (l = T) := by
  unfold fin12
  cases f with
  | zero => exact Bool.true_and _
  | succ f => rw [replayF, if_neg h]; simp
theorem fin_no {xs : List Int} {T l : List ByteArray} {f a : Nat} {hd : Hd} (h : a < xs.length) (hf : xs.length - a ≤ f) (hg : (getC xs (a : Int)).2.2.2 = false) : fin12 xs T f a l hd = false := by
  obtain ⟨f, rfl⟩ : ∃ k, f = k + 1 := ⟨f - 1, by omega⟩
  unfold fin12
  rw [replayF, if_pos h, if_neg (by rw [hg]; simp)]
  simp
theorem fin_far {xs : List Int} {T l : List ByteArray} {f a : Nat} {hd : Hd} (h : a < xs.length) (hf : xs.length - a ≤ f) (hT : ¬ (l ++ (getC xs (a : Int)).2.1) <+: T) : fin12 xs T f a l hd = false := by
  obtain ⟨f, rfl⟩ : ∃ k, f = k + 1 := ⟨f - 1, by omega⟩
  unfold fin12
  rw [replayF, if_pos h]
  split
  · split
    · have hp := replay_pre xs f (getC xs (a : Int)).2.2.1.toNat (l ++ (getC xs (a : Int)).2.1) (getC xs (a : Int)).1
      have hne : ¬ (replayF f xs (getC xs (a : Int)).2.2.1.toNat (l ++ (getC xs (a : Int)).2.1) (getC xs (a : Int)).1).1 = T := fun e => hT (by rw [e] at hp; exact hp)
      simp [hne]
    · simp
  · simp
theorem fin_head {xs : List Int} {T l : List ByteArray} {f a : Nat} {hd : Hd} (h : a < xs.length) (hf : xs.length - a ≤ f) (he : eqH (getC xs (a : Int)).1 (headOf (l ++ (getC xs (a : Int)).2.1)) = false) : fin12 xs T f a l hd = false := by
  obtain ⟨f, rfl⟩ : ∃ k, f = k + 1 := ⟨f - 1, by omega⟩
  unfold fin12
  rw [replayF, if_pos h]
  split
  · rw [if_neg (by rw [he]; simp)]; simp
  · simp
theorem fin_go {xs : List Int} {T l x : List ByteArray} {f a q : Nat} {hd h : Hd} (hlt : a < xs.length) (hf : xs.length - a ≤ f) (hg : getC xs (a : Int) = (h, x, (q : Int), true)) (haq : a < q) (hl : (l ++ x).length ≤ 200) (he : eqH h (headOf (l ++ x)) = true) :
    ∃ f', xs.length - q ≤ f' ∧ fin12 xs T f a l hd = fin12 xs T f' q (l ++ x) h := by
  obtain ⟨f, rfl⟩ : ∃ k, f = k + 1 := ⟨f - 1, by omega⟩
  refine ⟨f, by omega, ?_⟩
  rw [List.length_append] at hl
  unfold fin12
  conv => lhs; rw [replayF, if_pos hlt, hg]
  simp only [Int.toNat_natCast]
  rw [if_pos ⟨trivial, hl⟩, if_pos he]
/-- a beginning and what comes behind it -/
theorem pre_take {T x : List ByteArray} {m : Nat} (hm : m ≤ T.length) : (T.take m ++ x) <+: T ↔ x <+: T.drop m := by
  conv => lhs; rhs; rw [← List.take_append_drop m T]
  exact List.prefix_append_right_inj _
theorem pre_eq {D x : List ByteArray} (h : x.length ≤ D.length) : x = D.take x.length ↔ x <+: D := by
  constructor
  · intro e; rw [e]; exact List.take_prefix _ _
  · intro e; exact List.prefix_iff_eq_take.1 e
theorem take_more {T x : List ByteArray} {m : Nat} (hm : m ≤ T.length) (hx : x <+: T.drop m) : T.take m ++ x = T.take (m + x.length) ∧ m + x.length ≤ T.length := by
  have e := List.prefix_iff_eq_take.1 hx
  have hl := hx.length_le
  rw [List.length_drop] at hl
  refine ⟨?_, by omega⟩
  rw [List.take_add, ← e]
theorem storeOk_fin (st : Sto) (h1 : logOk st.l st.h = true) (h2 : st.b.length ≤ 60000) (h3 : 0 ≤ st.s ∧ st.s ≤ (st.b.length : Int)) : storeOk st = fin12 st.b st.l st.b.length 0 [] (headOf []) := by
  unfold storeOk fin12 replay
  rw [h1]
  simp [h2, h3.1, h3.2]
theorem storeOk_no (st : Sto) (h : ¬ (logOk st.l st.h = true ∧ st.b.length ≤ 60000 ∧ 0 ≤ st.s ∧ st.s ≤ (st.b.length : Int))) : storeOk st = false := by
  rw [← Bool.not_eq_true]
  intro q
  obtain ⟨a, b, c, d, _⟩ := ok_parts q
  exact h ⟨a, b, c, d⟩
/-- the head of a beginning is told by its edge -/
theorem headOf_edge {T : List ByteArray} {m : Nat} (h2 : T.length ≤ 200) (hm : m ≤ T.length) : headOf (T.take m) = ⟨(m : Int), Ed.rootE (m : Int) (Ed.edge (T.take m))⟩ := by
  have hl : (T.take m).length = m := by rw [List.length_take]; omega
  unfold headOf
  rw [if_pos (by omega), hl]
  have := Ed.rootE_edge (l := T.take m) (by omega)
  rw [hl] at this
  rw [this]

/-- nothing more is opened -/
theorem open_stop {t : List Hd} {xs : List Int} {f a n : Nat} {st : Sto} (h : (getC xs (a : Int)).2.2.2 = false ∨ ¬ (commit1 st t (getC xs (a : Int)).1 (getC xs (a : Int)).2.1).2 = 0) : openF f t xs a st n = (st, n) := by
  cases f with
  | zero => rfl
  | succ f =>
    rw [openF]
    split
    · rw [if_neg]
      rintro ⟨h1, h2⟩
      rcases h with h | h
      · rw [h] at h1; cases h1
      · exact h h2
    · rfl
/-- one commit more is opened -/
theorem open_go {t : List Hd} {xs : List Int} {f a n : Nat} {st : Sto} {h : Hd} {x : List ByteArray} {p : Int} (hb : Byt xs) (ha : a ≤ xs.length) (hst : st.b = xs.take a) (hf : xs.length - a ≤ f) (hg : getC xs (a : Int) = (h, x, p, true)) (hc : (commit1 st t h x).2 = 0) :
    ∃ f' q : Nat, a < q ∧ q ≤ xs.length ∧ xs.length - q ≤ f' ∧ commit1 st t h x = (⟨st.l ++ x, h, xs.take q, st.s⟩, 0) ∧ openF f t xs a st n = openF f' t xs q ⟨st.l ++ x, h, xs.take q, st.s⟩ (n + 1) ∧ st.b.length + (putC h x).length = q := by
  obtain ⟨q, rfl, hq, hqx, hk, h1, h2, hbl, hd⟩ := put_get hb hg
  have hp5 := put_pos h x
  obtain ⟨f, rfl⟩ : ∃ k, f = k + 1 := ⟨f - 1, by omega⟩
  obtain ⟨_, _, _, _, _, _, hs⟩ := commit1_good hc
  have e5 : xs.take q = xs.take a ++ put h x := by
    rw [hq, List.take_add, hd, List.take_append_of_le_length (Nat.le_refl _), List.take_of_length_le (Nat.le_refl _)]
  have hcc : commit1 st t h x = (⟨st.l ++ x, h, xs.take q, st.s⟩, 0) := by
    refine Prod.ext ?_ hc
    rw [hs, hst, e5]
  refine ⟨f, q, by omega, hqx, by omega, hcc, ?_, ?_⟩
  · rw [openF, if_pos (by omega), hg]
    simp only
    rw [if_pos ⟨trivial, hc⟩, hcc]
    simp only [Int.toNat_natCast]
  · rw [putC_yes hk h1 h2, hst, List.length_take]
    omega
/-- where the commit's bytes fit, the landed code commits as the specification does -/
theorem commitQ_got {t : List Hd} {xs : List Int} {a : Nat} {st : Sto} {h : Hd} {x : List ByteArray} {p : Int} (hb : Byt xs) (h6 : xs.length ≤ 60000) (ha : a ≤ xs.length) (hst : st.b = xs.take a) (hg : getC xs (a : Int) = (h, x, p, true)) : commitQ st t h x = commit1 st t h x := by
  obtain ⟨q, rfl, hq, hqx, hk, h1, h2, hbl, hd⟩ := put_get hb hg
  unfold commitQ
  rw [if_pos]
  rw [putC_yes hk h1 h2, hst, List.length_take]
  omega

end Go.Proofs.YtfpaichdkddglabDoor.Sr
