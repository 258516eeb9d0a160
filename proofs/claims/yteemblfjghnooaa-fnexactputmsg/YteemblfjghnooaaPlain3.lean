/- Plain lists and numbers: what was put is got back. -/
import Derived.Test.YteemblfjghnooaaPlain2
import Derived.Test.YteemblfjghnooaaPuts
import Derived.Test.YteemblfjghnooaaLaws
import Derived.Test.YteemblfjghnooaaGets
namespace Go.Proofs.Yteemblfjghnooaa.Plain
open Go.Proofs.Yteemblfjghnooaa.Mem Go.Proofs.Yteemblfjghnooaa.Laws Go.Proofs.Yteemblfjghnooaa.Puts Go.Proofs.Yteemblfjghnooaa.Gets

theorem split_mul (m : Nat) (W : Int) : ((m % 128 : Nat) : Int) * W + ((m / 128 : Nat) : Int) * (W * 128) = (m : Int) * W := by
  have h : (m : Int) = ((m / 128 : Nat) : Int) * 128 + ((m % 128 : Nat) : Int) := by omega
  have e : (m : Int) * W = (((m / 128 : Nat) : Int) * 128 + ((m % 128 : Nat) : Int)) * W := by rw [← h]
  rw [e, Int.add_mul, Int.mul_assoc, Int.mul_comm 128 W, Int.add_comm]

theorem dec_enc (f : Nat) : ∀ (m : Nat) (k : Nat) (N W : Int) (r : List Int), m ≤ f → 0 ≤ N → 0 ≤ W → N + (m : Int) * W ≤ 1000000000 → k + (enc m).length ≤ 5 → (k = 0 ∨ 0 < m) → dec k N W (enc m ++ r) = some (N + (m : Int) * W, k + (enc m).length) := by
  induction f with
  | zero =>
    intro m k N W r hm h0 hW hN hk hz
    obtain rfl : m = 0 := by omega
    rw [enc_small (by omega)] at hk ⊢
    have hk0 : k = 0 := by omega
    subst hk0
    exact dec_good (by omega) (by omega) (by rintro (h | h) <;> simp at * <;> omega)
  | succ f ih =>
    intro m k N W r hm h0 hW hN hk hz
    by_cases hs : m < 128
    · rw [enc_small hs] at hk ⊢
      have e : ((m : Nat) : Int) % 128 = (m : Int) := by omega
      have hg := dec_good (k := k) (N := N) (W := W) (c := (m : Int)) (r := r) (by simp at hk; omega) (by omega) (by rw [e]; omega)
      rw [e] at hg
      exact hg
    · rw [enc_step hs] at hk ⊢
      simp only [List.length_cons] at hk
      have e : ((m % 128 + 128 : Nat) : Int) % 128 = ((m % 128 : Nat) : Int) := by omega
      have hstep := dec_more (k := k) (N := N) (W := W) (c := ((m % 128 + 128 : Nat) : Int)) (r := enc (m / 128) ++ r) (by omega) (by omega)
      rw [e] at hstep
      have hsm := split_mul m W
      have hp : 0 ≤ ((m % 128 : Nat) : Int) * W := Int.mul_nonneg (by omega) hW
      have hih := ih (m / 128) (k + 1) (N + ((m % 128 : Nat) : Int) * W) (W * 128) r (by omega) (by omega) (by omega) (by omega) (by omega) (.inr (by omega))
      rw [List.cons_append, hstep, hih]
      simp only [List.length_cons, Option.some.injEq, Prod.mk.injEq]
      omega

theorem num_eq (n : Int) : num n = enc (clampN n).toNat := rfl

/-- A number comes back. -/
theorem getNum_back (ys r : List Int) (n : Int) : getNum (ys ++ (num n ++ r)) (ys.length : Int) = (clampN n, (ys.length : Int) + (num n).length, true) := by
  have hb := clampN_bd n
  have hl := num_len n
  have e : ((clampN n).toNat : Int) = clampN n := by omega
  have hd := dec_enc (clampN n).toNat (clampN n).toNat 0 0 1 r (Nat.le_refl _) (by omega) (by omega) (by omega) (by rw [← num_eq]; omega) (.inl rfl)
  rw [← num_eq] at hd
  have hlen : ys.length < (ys ++ (num n ++ r)).length := by simp; omega
  have h := getNum_some (xs := ys ++ (num n ++ r)) (a := ys.length) hlen (by rw [List.drop_append, List.drop_eq_nil_of_le (Nat.le_refl _), Nat.sub_self, List.nil_append, List.drop_zero]; exact hd)
  rw [h]
  simp only [Prod.mk.injEq, and_true]
  omega

theorem dec_big (l : List Int) : ∀ (k : Nat) (N W : Int), (∀ c ∈ l, 128 ≤ c) → dec k N W l = none := by
  induction l with
  | nil => intro k N W _; rfl
  | cons c r ih =>
    intro k N W h
    by_cases h5 : k = 5
    · subst h5; exact dec_five
    · rw [dec_more h5 (h c (List.mem_cons_self ..))]
      exact ih _ _ _ (fun x hx => h x (List.mem_cons_of_mem _ hx))

theorem enc_front (f : Nat) : ∀ m, m ≤ f → ∀ c ∈ (enc m).dropLast, 128 ≤ c := by
  induction f with
  | zero => intro m hm; rw [enc_small (by omega)]; simp
  | succ f ih =>
    intro m hm
    by_cases hs : m < 128
    · rw [enc_small hs]; simp
    · rw [enc_step hs]
      have hne : enc (m / 128) ≠ [] := by
        intro h; have := enc_len (m / 128); rw [h] at this; simp at this
      rw [List.dropLast_cons_of_ne_nil hne]
      intro c hc
      rcases List.mem_cons.1 hc with rfl | hc
      · omega
      · exact ih (m / 128) (by omega) c hc

/-- A number that lacks its last byte does not. -/
theorem getNum_cut (ys : List Int) (n : Int) : getNum ((ys ++ num n).take ((ys ++ num n).length - 1)) (ys.length : Int) = (0, 0, false) := by
  have hl := num_len n
  have hne : num n ≠ [] := by intro h; rw [h] at hl; simp at hl
  have e : (ys ++ num n).take ((ys ++ num n).length - 1) = ys ++ (num n).dropLast := by
    rw [← List.dropLast_eq_take, List.dropLast_append_of_ne_nil hne]
  rw [e]
  by_cases h0 : (num n).dropLast.length = 0
  · exact getNum_out (.inr (by simp [List.length_append] at *; omega))
  · refine getNum_none (by rw [List.length_append]; omega) ?_
    rw [List.drop_append, List.drop_eq_nil_of_le (Nat.le_refl _), Nat.sub_self, List.nil_append, List.drop_zero]
    exact dec_big _ _ _ _ (enc_front _ _ (Nat.le_refl _))

theorem u8s_sb (s : ByteArray) : u8s (sb s) = s.data.toList := by
  unfold u8s sb
  rw [List.map_map]
  have h : ((fun x : Int => UInt8.ofNat x.toNat) ∘ fun b : UInt8 => (b.toNat : Int)) = id := by
    funext b
    simp
  rw [h, List.map_id]
theorem txt_sb (s : ByteArray) : txt (sb s) = s := by
  unfold txt
  rw [u8s_sb]

theorem clamp_size {n : Nat} (h : n ≤ 1000000000) : clampN (n : Int) = (n : Int) := by
  unfold clampN
  rw [if_neg (by omega), if_neg (by omega)]

/-- A text comes back. -/
theorem getText_back (ys r : List Int) (s : ByteArray) (hs : s.size ≤ 1000000000) : getText (ys ++ (tx s ++ r)) (ys.length : Int) = (s, (ys.length : Int) + (tx s).length, true) := by
  have hg := getNum_back ys (sb s ++ r) (s.size : Int)
  rw [clamp_size hs] at hg
  have e : ys ++ (tx s ++ r) = ys ++ (num (s.size : Int) ++ (sb s ++ r)) := by unfold tx; rw [List.append_assoc]
  rw [e]
  have hl : (ys ++ (num (s.size : Int) ++ (sb s ++ r))).length = ys.length + ((num (s.size : Int)).length + (s.size + r.length)) := by
    simp only [List.length_append, sb_len]
  have hg2 : getNum (ys ++ (num (s.size : Int) ++ (sb s ++ r))) (ys.length : Int) = ((s.size : Int), ((ys.length + (num (s.size : Int)).length : Nat) : Int), true) := by
    rw [hg]; simp
  have h := getText_yes hg2 (by rw [hl]; omega)
  rw [h]
  have hd : ((ys ++ (num (s.size : Int) ++ (sb s ++ r))).drop (ys.length + (num (s.size : Int)).length)).take s.size = sb s := by
    rw [← List.append_assoc, List.drop_append, List.drop_eq_nil_of_le (by simp), List.nil_append, show ys.length + (num (s.size : Int)).length - (ys ++ num (s.size : Int)).length = 0 by simp, List.drop_zero, List.take_append_of_le_length (by rw [sb_len]; exact Nat.le_refl _), List.take_of_length_le (by rw [sb_len]; exact Nat.le_refl _)]
  rw [hd, txt_sb]
  have ht : (tx s).length = (num (s.size : Int)).length + s.size := by unfold tx; rw [List.length_append, sb_len]
  rw [ht]
  simp only [Prod.mk.injEq, and_true, true_and]
  omega

theorem rd_back (l : List ByteArray) : ∀ (ys r : List Int), (∀ s ∈ l, s.size ≤ 1000000000) → rd (ys ++ (txs l ++ r)) l.length (ys.length : Int) = some (l, (ys.length : Int) + (txs l).length) := by
  induction l with
  | nil => intro ys r _; simp [rd, txs]
  | cons s t ih =>
    intro ys r hs
    have e : ys ++ (txs (s :: t) ++ r) = ys ++ (tx s ++ (txs t ++ r)) := by simp only [txs, List.append_assoc]
    have e2 : ys ++ (tx s ++ (txs t ++ r)) = (ys ++ tx s) ++ (txs t ++ r) := by simp only [List.append_assoc]
    rw [e, List.length_cons, rd_yes (getText_back ys (txs t ++ r) s (hs s (List.mem_cons_self ..))), e2]
    have h := ih (ys ++ tx s) r (fun x hx => hs x (List.mem_cons_of_mem _ hx))
    have e3 : ((ys ++ tx s).length : Int) = (ys.length : Int) + ((tx s).length : Int) := by rw [List.length_append]; omega
    rw [e3] at h
    rw [h]
    simp only [Option.map_some, txs, List.length_append, Option.some.injEq, Prod.mk.injEq, true_and]
    omega

/-- Texts come back. -/
theorem getTexts_back (ys r : List Int) (l : List ByteArray) (hl : l.length ≤ 200) (hs : ∀ s ∈ l, s.size ≤ 1000000000) :
    getTexts ((ys ++ num (l.length : Int) ++ txs l) ++ r) (ys.length : Int) = (l, ((ys ++ num (l.length : Int) ++ txs l).length : Int), true) := by
  have hg := getNum_back ys (txs l ++ r) (l.length : Int)
  rw [clamp_size (by omega)] at hg
  have e : (ys ++ num (l.length : Int) ++ txs l) ++ r = ys ++ (num (l.length : Int) ++ (txs l ++ r)) := by simp only [List.append_assoc]
  have e2 : ys ++ (num (l.length : Int) ++ (txs l ++ r)) = (ys ++ num (l.length : Int)) ++ (txs l ++ r) := by simp only [List.append_assoc]
  rw [e]
  have hr := rd_back l (ys ++ num (l.length : Int)) r hs
  rw [← e2] at hr
  have e3 : ((ys ++ num (l.length : Int)).length : Int) = (ys.length : Int) + ((num (l.length : Int)).length : Int) := by rw [List.length_append]; omega
  rw [e3] at hr
  rw [getTexts_some hg hl hr]
  simp only [List.length_append, Prod.mk.injEq, true_and, and_true]
  omega

end Go.Proofs.Yteemblfjghnooaa.Plain
