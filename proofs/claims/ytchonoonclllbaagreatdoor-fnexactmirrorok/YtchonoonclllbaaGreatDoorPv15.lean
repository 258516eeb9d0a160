/- Texts in one: Sr6. -/
import Derived.Test.YtchonoonclllbaaGreatDoorPv10
import Derived.Test.YtchonoonclllbaaGreatDoorPv14
namespace Go.Proofs.YtchonoonclllbaaGreatDoor.Sr
open Go.RowKit Go.Proofs.YtchonoonclllbaaGreatDoor.Mem Go.Proofs.YtchonoonclllbaaGreatDoor.Laws Go.Proofs.YtchonoonclllbaaGreatDoor.Sha Go.Proofs.YtchonoonclllbaaGreatDoor.Tr Go.Proofs.YtchonoonclllbaaGreatDoor.He Go.Proofs.YtchonoonclllbaaGreatDoor.Lg
set_option linter.unusedVariables false
set_option linter.unusedSimpArgs false
theorem replay_pre (xs : List Int) : ∀ (f a : Nat) (l : List ByteArray) (hd : Hd), l <+: (replayF f xs a l hd).1 := by
 intro f
 induction f with
 | zero => intro a l hd; exact List.prefix_refl _
 | succ f ih2 =>
  intro a l hd
  rw [replayF]
  split
  ·
   split
   ·
    split
    ·
     exact (List.prefix_append _ _).trans (ih2 _ _ _)
    ·
     exact List.prefix_append _ _
   ·
    exact List.prefix_refl _
  ·
   exact List.prefix_refl _
def fin12 (xs : List Int) (T : List ByteArray) (f a : Nat) (l : List ByteArray) (hd : Hd) : Bool := (replayF f xs a l hd).2.2 && decide ((replayF f xs a l hd).1 = T)
theorem fin_end {xs : List Int} {T l : List ByteArray} {f a : Nat} {hd : Hd} (h : ¬ a < xs.length) : fin12 xs T f a l hd = decide (l = T) := by
 unfold fin12
 cases f with
 | zero => exact Bool.true_and _
 | succ f => rw [replayF, if_neg h]; simp
theorem fin_no {xs : List Int} {T l : List ByteArray} {f a : Nat} {hd : Hd} (h : a < xs.length) (hf : xs.length - a ≤ f) (hg : (getC xs (a : Int)).2.2.2 = false) : fin12 xs T f a l hd = false := by
 obtain ⟨f, rfl⟩ : ∃ k, f = k + 1 := ⟨f - 1, by omega⟩
 unfold fin12
 rw [replayF, if_pos h, if_neg (by rw [hg]; simp)]
 simp
theorem fin_far {xs : List Int} {T l : List ByteArray} {f a : Nat} {hd : Hd} (h : a < xs.length) (hf : xs.length - a ≤ f) (hT : ¬ (l ++ (getC xs (a : Int)).2.1) <+: T) : fin12 xs T f a l hd = false := by
 obtain ⟨f, rfl⟩ : ∃ k, f = k + 1 := ⟨f - 1, by omega⟩
 unfold fin12
 rw [replayF, if_pos h]
 split
 ·
  split
  ·
   have hp := replay_pre xs f (getC xs (a : Int)).2.2.1.toNat (l ++ (getC xs (a : Int)).2.1) (getC xs (a : Int)).1
   have hne : ¬ (replayF f xs (getC xs (a : Int)).2.2.1.toNat (l ++ (getC xs (a : Int)).2.1) (getC xs (a : Int)).1).1 = T := fun e => hT (by rw [e] at hp; exact hp)
   simp [hne]
  ·
   simp
 ·
  simp
theorem fin_head {xs : List Int} {T l : List ByteArray} {f a : Nat} {hd : Hd} (h : a < xs.length) (hf : xs.length - a ≤ f) (he : eqH (getC xs (a : Int)).1 (headOf (l ++ (getC xs (a : Int)).2.1)) = false) : fin12 xs T f a l hd = false := by
 obtain ⟨f, rfl⟩ : ∃ k, f = k + 1 := ⟨f - 1, by omega⟩
 unfold fin12
 rw [replayF, if_pos h]
 split
 ·
  rw [if_neg (by rw [he]; simp)]; simp
 ·
  simp
theorem fin_go {xs : List Int} {T l x : List ByteArray} {f a q : Nat} {hd h : Hd} (hlt : a < xs.length) (hf : xs.length - a ≤ f) (hg : getC xs (a : Int) = (h, x, (q : Int), true)) (haq : a < q) (hl : (l ++ x).length ≤ 200) (he : eqH h (headOf (l ++ x)) = true) :
  ∃ f', xs.length - q ≤ f' ∧ fin12 xs T f a l hd = fin12 xs T f' q (l ++ x) h := by
 obtain ⟨f, rfl⟩ : ∃ k, f = k + 1 := ⟨f - 1, by omega⟩
 refine ⟨f, by omega, ?_⟩
 rw [List.length_append] at hl
 unfold fin12
 conv => lhs; rw [replayF, if_pos hlt, hg]
 simp only [Int.toNat_natCast]
 rw [if_pos ⟨trivial, hl⟩, if_pos he]
theorem pre_take {T x : List ByteArray} {m : Nat} (hm : m ≤ T.length) : (T.take m ++ x) <+: T ↔ x <+: T.drop m := by
 conv => lhs; rhs; rw [← List.take_append_drop m T]
 exact List.prefix_append_right_inj _
theorem pre_eq {D x : List ByteArray} (h : x.length ≤ D.length) : x = D.take x.length ↔ x <+: D := by
 constructor
 ·
  intro e; rw [e]; exact List.take_prefix _ _
 ·
  intro e; exact List.prefix_iff_eq_take.1 e
theorem take_more {T x : List ByteArray} {m : Nat} (hm : m ≤ T.length) (hx : x <+: T.drop m) : T.take m ++ x = T.take (m + x.length) ∧ m + x.length ≤ T.length := by
 have e := List.prefix_iff_eq_take.1 hx
 have hl := hx.length_le
 rw [List.length_drop] at hl
 refine ⟨?_, by omega⟩
 rw [List.take_add, ← e]
theorem storeOk_fin (st : Sto) (h1 : logOk st.l st.h = true) (h2 : st.b.length ≤ 60000) (h3 : 0 ≤ st.s ∧ st.s ≤ (st.b.length : Int)) : storeOk st = fin12 st.b st.l st.b.length 0 [] (headOf []) := by
 unfold storeOk fin12 replay
 rw [h1]
 simp [h2, h3.1, h3.2]
theorem storeOk_no (st : Sto) (h : ¬ (logOk st.l st.h = true ∧ st.b.length ≤ 60000 ∧ 0 ≤ st.s ∧ st.s ≤ (st.b.length : Int))) : storeOk st = false := by
 rw [← Bool.not_eq_true]
 intro q
 obtain ⟨a, b, c, d, _⟩ := ok_parts q
 exact h ⟨a, b, c, d⟩
theorem headOf_edge {T : List ByteArray} {m : Nat} (h2 : T.length ≤ 200) (hm : m ≤ T.length) : headOf (T.take m) = ⟨(m : Int), Ed.rootE (m : Int) (Ed.edge (T.take m))⟩ := by
 have hl : (T.take m).length = m := by rw [List.length_take]; omega
 unfold headOf
 rw [if_pos (by omega), hl]
 have := Ed.rootE_edge (l := T.take m) (by omega)
 rw [hl] at this
 rw [this]
end Go.Proofs.YtchonoonclllbaaGreatDoor.Sr
