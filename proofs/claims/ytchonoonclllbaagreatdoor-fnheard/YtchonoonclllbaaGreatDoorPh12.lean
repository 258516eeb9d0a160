/- Texts in one: Plain3, Can, Sr1, Lg2. -/
import Derived.Test.YtchonoonclllbaaGreatDoorPh11
set_option maxHeartbeats 16000000
set_option linter.unusedVariables false
set_option linter.unusedSimpArgs false
namespace Go.Proofs.YtchonoonclllbaaGreatDoor.Plain
open Mem Laws Puts Gets
theorem split_mul (m : Nat) (W : Int) : ((m % 128 : Nat) : Int) * W + ((m / 128 : Nat) : Int) * (W * 128) = (m : Int) * W := by
 have h : (m : Int) = ((m / 128 : Nat) : Int) * 128 + ((m % 128 : Nat) : Int) := by omega
 have e : (m : Int) * W = (((m / 128 : Nat) : Int) * 128 + ((m % 128 : Nat) : Int)) * W := by rw [← h]
 rw [e, Int.add_mul, Int.mul_assoc, Int.mul_comm 128 W, Int.add_comm]
theorem dec_enc (f : Nat) : ∀ (m : Nat) (k : Nat) (N W : Int) (r : List Int), m ≤ f → 0 ≤ N → 0 ≤ W → N + (m : Int) * W ≤ 1000000000 → k + (enc m).length ≤ 5 → (k = 0 ∨ 0 < m) → dec k N W (enc m ++ r) = some (N + (m : Int) * W, k + (enc m).length) := by
 induction f with
 | zero =>
  intro m k N W r hm h0 hW hN hk hz
  obtain rfl : m = 0 := by omega
  rw [enc_small (by omega)] at hk ⊢
  have hk0 : k = 0 := by omega
  subst hk0
  exact dec_good (by omega) (by omega) (by rintro (h | h) <;> simp at * <;> omega)
 | succ f ih =>
  intro m k N W r hm h0 hW hN hk hz
  by_cases hs : m < 128
  ·rw [enc_small hs] at hk ⊢
   have e : ((m : Nat) : Int) % 128 = (m : Int) := by omega
   have hg := dec_good (k := k) (N := N) (W := W) (c := (m : Int)) (r := r) (by simp at hk; omega) (by omega) (by rw [e]; omega)
   rw [e] at hg
   exact hg
  ·rw [enc_step hs] at hk ⊢
   simp only [List.length_cons] at hk
   have e : ((m % 128 + 128 : Nat) : Int) % 128 = ((m % 128 : Nat) : Int) := by omega
   have hstep := dec_more (k := k) (N := N) (W := W) (c := ((m % 128 + 128 : Nat) : Int)) (r := enc (m / 128) ++ r) (by omega) (by omega)
   rw [e] at hstep
   have hsm := split_mul m W
   have hp : 0 ≤ ((m % 128 : Nat) : Int) * W := Int.mul_nonneg (by omega) hW
   have hih := ih (m / 128) (k + 1) (N + ((m % 128 : Nat) : Int) * W) (W * 128) r (by omega) (by omega) (by omega) (by omega) (by omega) (.inr (by omega))
   rw [List.cons_append, hstep, hih]
   simp only [List.length_cons, Option.some.injEq, Prod.mk.injEq]
   omega
theorem num_eq (n : Int) : num n = enc (clampN n).toNat := rfl
theorem getNum_back (ys r : List Int) (n : Int) : getNum (ys ++ (num n ++ r)) (ys.length : Int) = (clampN n, (ys.length : Int) + (num n).length, true) := by
 have hb := clampN_bd n
 have hl := num_len n
 have e : ((clampN n).toNat : Int) = clampN n := by omega
 have hd := dec_enc (clampN n).toNat (clampN n).toNat 0 0 1 r (Nat.le_refl _) (by omega) (by omega) (by omega) (by rw [← num_eq]; omega) (.inl rfl)
 rw [← num_eq] at hd
 have hlen : ys.length < (ys ++ (num n ++ r)).length := by simp; omega
 have h := getNum_some (xs := ys ++ (num n ++ r)) (a := ys.length) hlen (by rw [List.drop_append, List.drop_eq_nil_of_le (Nat.le_refl _), Nat.sub_self, List.nil_append, List.drop_zero]; exact hd)
 rw [h]
 simp only [Prod.mk.injEq, and_true]
 omega
theorem u8s_sb (s : ByteArray) : u8s (sb s) = s.data.toList := by
 unfold u8s sb
 rw [List.map_map]
 have h : ((fun x : Int => UInt8.ofNat x.toNat) ∘ fun b : UInt8 => (b.toNat : Int)) = id := by
  funext b
  simp
 rw [h, List.map_id]
theorem txt_sb (s : ByteArray) : txt (sb s) = s := by
 unfold txt
 rw [u8s_sb]
theorem clamp_size {n : Nat} (h : n ≤ 1000000000) : clampN (n : Int) = (n : Int) := by
 unfold clampN
 rw [if_neg (by omega), if_neg (by omega)]
theorem getText_back (ys r : List Int) (s : ByteArray) (hs : s.size ≤ 1000000000) : getText (ys ++ (tx s ++ r)) (ys.length : Int) = (s, (ys.length : Int) + (tx s).length, true) := by
 have hg := getNum_back ys (sb s ++ r) (s.size : Int)
 rw [clamp_size hs] at hg
 have e : ys ++ (tx s ++ r) = ys ++ (num (s.size : Int) ++ (sb s ++ r)) := by unfold tx; rw [List.append_assoc]
 rw [e]
 have hl : (ys ++ (num (s.size : Int) ++ (sb s ++ r))).length = ys.length + ((num (s.size : Int)).length + (s.size + r.length)) := by
  simp only [List.length_append, sb_len]
 have hg2 : getNum (ys ++ (num (s.size : Int) ++ (sb s ++ r))) (ys.length : Int) = ((s.size : Int), ((ys.length + (num (s.size : Int)).length : Nat) : Int), true) := by
  rw [hg]; simp
 have h := getText_yes hg2 (by rw [hl]; omega)
 rw [h]
 have hd : ((ys ++ (num (s.size : Int) ++ (sb s ++ r))).drop (ys.length + (num (s.size : Int)).length)).take s.size = sb s := by
  rw [← List.append_assoc, List.drop_append, List.drop_eq_nil_of_le (by simp), List.nil_append, show ys.length + (num (s.size : Int)).length - (ys ++ num (s.size : Int)).length = 0 by simp, List.drop_zero, List.take_append_of_le_length (by rw [sb_len]; exact Nat.le_refl _), List.take_of_length_le (by rw [sb_len]; exact Nat.le_refl _)]
 rw [hd, txt_sb]
 have ht : (tx s).length = (num (s.size : Int)).length + s.size := by unfold tx; rw [List.length_append, sb_len]
 rw [ht]
 simp only [Prod.mk.injEq, and_true, true_and]
 omega
theorem rd_back (l : List ByteArray) : ∀ (ys r : List Int), (∀ s ∈ l, s.size ≤ 1000000000) → rd (ys ++ (txs l ++ r)) l.length (ys.length : Int) = some (l, (ys.length : Int) + (txs l).length) := by
 induction l with
 | nil => intro ys r _; simp [rd, txs]
 | cons s t ih =>
  intro ys r hs
  have e : ys ++ (txs (s :: t) ++ r) = ys ++ (tx s ++ (txs t ++ r)) := by simp only [txs, List.append_assoc]
  have e2 : ys ++ (tx s ++ (txs t ++ r)) = (ys ++ tx s) ++ (txs t ++ r) := by simp only [List.append_assoc]
  rw [e, List.length_cons, rd_yes (getText_back ys (txs t ++ r) s (hs s (List.mem_cons_self ..))), e2]
  have h := ih (ys ++ tx s) r (fun x hx => hs x (List.mem_cons_of_mem _ hx))
  have e3 : ((ys ++ tx s).length : Int) = (ys.length : Int) + ((tx s).length : Int) := by rw [List.length_append]; omega
  rw [e3] at h
  rw [h]
  simp only [Option.map_some, txs, List.length_append, Option.some.injEq, Prod.mk.injEq, true_and]
  omega
theorem getTexts_back (ys r : List Int) (l : List ByteArray) (hl : l.length ≤ 200) (hs : ∀ s ∈ l, s.size ≤ 1000000000) :
  getTexts ((ys ++ num (l.length : Int) ++ txs l) ++ r) (ys.length : Int) = (l, ((ys ++ num (l.length : Int) ++ txs l).length : Int), true) := by
 have hg := getNum_back ys (txs l ++ r) (l.length : Int)
 rw [clamp_size (by omega)] at hg
 have e : (ys ++ num (l.length : Int) ++ txs l) ++ r = ys ++ (num (l.length : Int) ++ (txs l ++ r)) := by simp only [List.append_assoc]
 have e2 : ys ++ (num (l.length : Int) ++ (txs l ++ r)) = (ys ++ num (l.length : Int)) ++ (txs l ++ r) := by simp only [List.append_assoc]
 rw [e]
 have hr := rd_back l (ys ++ num (l.length : Int)) r hs
 rw [← e2] at hr
 have e3 : ((ys ++ num (l.length : Int)).length : Int) = (ys.length : Int) + ((num (l.length : Int)).length : Int) := by rw [List.length_append]; omega
 rw [e3] at hr
 rw [getTexts_some hg hl hr]
 simp only [List.length_append, Prod.mk.injEq, true_and, and_true]
 omega
end Go.Proofs.YtchonoonclllbaaGreatDoor.Plain
namespace Go.Proofs.YtchonoonclllbaaGreatDoor.Can
open Go.RowKit Mem Laws Sha
theorem dec_canon : ∀ (l : List Int) (k : Nat) (N W n : Int) (k' : Nat), Plain.dec k N W l = some (n, k') → Byt l → ∃ m : Nat, n = N + (m : Int) * W ∧ k' = k + (Plain.enc m).length ∧ l = Plain.enc m ++ l.drop (Plain.enc m).length ∧ (0 < k → 0 < m) := by
 intro l
 induction l with
 | nil => intro k N W n k' h; simp [Plain.dec] at h
 | cons c r ih =>
  intro k N W n k' h hb
  have hc : 0 ≤ c ∧ c ≤ 255 := hb c (by simp)
  rw [Plain.dec] at h
  split at h
  ·cases h
  ·split at h
   ·rename_i h5 h128
    obtain ⟨m, hn, hk, hl, hm⟩ := ih _ _ _ _ _ h (fun x hx => hb x (by simp [hx]))
    have hm0 := hm (by omega)
    obtain ⟨d, hd⟩ : ∃ d : Nat, c = (d : Int) := ⟨c.toNat, by omega⟩
    subst hd
    have e1 : (d % 128 + 128 * m) % 128 + 128 = d := by omega
    have e2 : (d % 128 + 128 * m) / 128 = m := by omega
    have henc : Plain.enc (d % 128 + 128 * m) = (d : Int) :: Plain.enc m := by rw [Plain.enc_step (by omega), e1, e2]
    refine ⟨d % 128 + 128 * m, ?_, ?_, ?_, fun _ => by omega⟩
    ·rw [hn]
     have : (((d % 128 + 128 * m : Nat) : Int)) = (d : Int) % 128 + 128 * (m : Int) := by omega
     rw [this, Int.add_mul, Int.add_assoc, Int.mul_comm W 128, ← Int.mul_assoc, Int.mul_comm (m : Int) 128]
    ·rw [hk, henc, List.length_cons]; omega
    ·rw [henc]
     simp only [List.cons_append, List.length_cons, List.drop_succ_cons]
     rw [← hl]
   ·split at h
    ·cases h
    ·rename_i h5 h128 hbad
     simp only [Option.some.injEq, Prod.mk.injEq] at h
     obtain ⟨rfl, rfl⟩ := h
     obtain ⟨d, hd⟩ : ∃ d : Nat, c = (d : Int) := ⟨c.toNat, by omega⟩
     subst hd
     have hd128 : d < 128 := by omega
     have e : (d : Int) % 128 = (d : Int) := by omega
     refine ⟨d, by rw [e], by rw [Plain.enc_small hd128]; rfl, by rw [Plain.enc_small hd128]; simp, fun hk => ?_⟩
     rw [not_or] at hbad
     rw [e] at hbad
     omega
theorem num_enc {n : Int} {m : Nat} (h : n = (m : Int)) (hm : n ≤ 1000000000) : Puts.num n = Plain.enc m := by
 rw [Plain.num_eq, h, Plain.clamp_size (by omega)]
 simp
theorem dec_bd : ∀ (l : List Int) (k : Nat) (N W n : Int) (k' : Nat), Plain.dec k N W l = some (n, k') → n ≤ 1000000000 := by
 intro l
 induction l with
 | nil => intro k N W n k' h; simp [Plain.dec] at h
 | cons c r ih =>
  intro k N W n k' h
  rw [Plain.dec] at h
  split at h
  ·cases h
  ·split at h
   ·exact ih _ _ _ _ _ h
   ·split at h
    ·cases h
    ·rename_i hbad
     simp only [Option.some.injEq, Prod.mk.injEq] at h
     rw [not_or] at hbad
     omega
theorem getNum_canon {xs : List Int} {a : Nat} {n p : Int} (hb : Byt xs) (h : Plain.getNum xs (a : Int) = (n, p, true)) : ∃ q : Nat, p = (q : Int) ∧ 0 ≤ n ∧ n ≤ 1000000000 ∧ a ≤ xs.length ∧ xs.drop a = Puts.num n ++ xs.drop q := by
 unfold Plain.getNum at h
 split at h
 ·rename_i hc
  rw [show ((a : Int)).toNat = a from rfl] at h
  split at h
  ·rename_i n' k hd
   simp only [Prod.mk.injEq, and_true] at h
   obtain ⟨rfl, rfl⟩ := h
   obtain ⟨m, hn, hk, hl, _⟩ := dec_canon _ _ _ _ _ _ hd (fun x hx => hb x (List.mem_of_mem_drop hx))
   have h9 := dec_bd _ _ _ _ _ _ hd
   have hn' : n' = (m : Int) := by omega
   refine ⟨a + k, by omega, by omega, h9, by omega, ?_⟩
   rw [num_enc hn' h9]
   have hk' : k = (Plain.enc m).length := by omega
   rw [← List.drop_drop, hk']
   exact hl
  ·simp at h
 ·simp at h
theorem getText_canon {xs : List Int} {a : Nat} {s : ByteArray} {p : Int} (hb : Byt xs) (h : Plain.getText xs (a : Int) = (s, p, true)) : ∃ q : Nat, p = (q : Int) ∧ s.size ≤ 1000000000 ∧ xs.drop a = Puts.tx s ++ xs.drop q := by
 unfold Plain.getText at h
 split at h
 ·rename_i hc
  obtain ⟨n, q, ok, hg⟩ : ∃ n q ok, Plain.getNum xs (a : Int) = (n, q, ok) := ⟨_, _, _, rfl⟩
  rw [hg] at h hc
  simp only at h hc
  obtain ⟨rfl, hc2⟩ := hc
  simp only [Prod.mk.injEq, and_true] at h
  obtain ⟨rfl, rfl⟩ := h
  obtain ⟨q', rfl, hn0, hn9, _, hd⟩ := getNum_canon hb hg
  obtain ⟨m, rfl⟩ : ∃ m : Nat, n = (m : Int) := ⟨n.toNat, by omega⟩
  have hsz : (Plain.txt ((xs.drop ((q' : Int)).toNat).take ((m : Int)).toNat)).size = m := by
   rw [txt_size]
   simp
   omega
  have hsb : sb (Plain.txt ((xs.drop ((q' : Int)).toNat).take ((m : Int)).toNat)) = (xs.drop q').take m := by
   rw [sb_txt (fun x hx => hb x (List.mem_of_mem_drop (List.mem_of_mem_take hx)))]
   rfl
  refine ⟨q' + m, by omega, by omega, ?_⟩
  unfold Puts.tx
  rw [hsz, hsb, hd, List.append_assoc, ← List.drop_drop, List.take_append_drop]
 ·simp at h
theorem rd_canon {xs : List Int} (hb : Byt xs) : ∀ (n a : Nat) (l : List ByteArray) (p : Int), Plain.rd xs n (a : Int) = some (l, p) → ∃ q : Nat, p = (q : Int) ∧ l.length = n ∧ xs.drop a = Puts.txs l ++ xs.drop q := by
 intro n
 induction n with
 | zero =>
  intro a l p h
  simp [Plain.rd] at h
  obtain ⟨rfl, rfl⟩ := h
  exact ⟨a, rfl, rfl, rfl⟩
 | succ n ih =>
  intro a l p h
  rw [Plain.rd] at h
  split at h
  ·rename_i hok
   obtain ⟨s, q, ok, hg⟩ : ∃ s q ok, Plain.getText xs (a : Int) = (s, q, ok) := ⟨_, _, _, rfl⟩
   rw [hg] at h hok
   simp only at h hok
   subst hok
   obtain ⟨q', rfl, _, hd⟩ := getText_canon hb hg
   rw [Option.map_eq_some_iff] at h
   obtain ⟨⟨l2, q2⟩, h1, h2⟩ := h
   simp only [Prod.mk.injEq] at h2
   obtain ⟨rfl, rfl⟩ := h2
   obtain ⟨q3, hq3, hl3, hd3⟩ := ih _ _ _ h1
   refine ⟨q3, hq3, by simp [hl3], ?_⟩
   rw [hd, hd3]
   simp [Puts.txs]
  ·cases h
theorem getTexts_canon {xs : List Int} {a : Nat} {l : List ByteArray} {p : Int} (hb : Byt xs) (h : Plain.getTexts xs (a : Int) = (l, p, true)) : ∃ q : Nat, p = (q : Int) ∧ xs.drop a = Puts.num (l.length : Int) ++ Puts.txs l ++ xs.drop q := by
 unfold Plain.getTexts at h
 split at h
 ·rename_i hc
  obtain ⟨n, q, ok, hg⟩ : ∃ n q ok, Plain.getNum xs (a : Int) = (n, q, ok) := ⟨_, _, _, rfl⟩
  rw [hg] at h hc
  simp only at h hc
  obtain ⟨rfl, hc2⟩ := hc
  obtain ⟨q', rfl, hn0, hn9, _, hd⟩ := getNum_canon hb hg
  obtain ⟨m, rfl⟩ : ∃ m : Nat, n = (m : Int) := ⟨n.toNat, by omega⟩
  split at h
  ·rename_i l' q2 hr
   simp only [Prod.mk.injEq, and_true] at h
   obtain ⟨rfl, rfl⟩ := h
   obtain ⟨q3, hq3, hl3, hd3⟩ := rd_canon hb _ _ _ _ hr
   refine ⟨q3, hq3, ?_⟩
   have : l'.length = m := by rw [hl3]; rfl
   rw [hd, hd3, this, List.append_assoc]
  ·simp at h
 ·simp at h
end Go.Proofs.YtchonoonclllbaaGreatDoor.Can
namespace Go.Proofs.YtchonoonclllbaaGreatDoor.Sr
open Go.RowKit Mem Laws Sha Tr He
def body (h : Hd) (x : List ByteArray) : List Int := Puts.num h.n ++ Puts.tx h.r ++ (Puts.num (x.length : Int) ++ Puts.txs x)
def sum4 (b : List Int) : List Int := (digest b).take 4
def put (h : Hd) (x : List ByteArray) : List Int := Puts.num ((body h x).length : Int) ++ (body h x ++ sum4 (body h x))
def putC (h : Hd) (x : List ByteArray) : List Int := if okH h = true ∧ 1 ≤ x.length ∧ x.length ≤ 200 then put h x else []
theorem txs_byt : ∀ l : List ByteArray, Byt (Puts.txs l) := by
 intro l
 induction l with
 | nil => intro x hx; cases hx
 | cons s r ih => exact (Puts.tx_byt s).app ih
theorem body_byt (h : Hd) (x : List ByteArray) : Byt (body h x) := ((Puts.num_byt _).app (Puts.tx_byt _)).app ((Puts.num_byt _).app (txs_byt _))
theorem sum4_byt (b : List Int) : Byt (sum4 b) := fun x hx => digest_byt b x (List.mem_of_mem_take hx)
theorem sum4_len (b : List Int) : (sum4 b).length = 4 := by unfold sum4; rw [List.length_take, digest_len]; rfl
theorem put_byt (h : Hd) (x : List ByteArray) : Byt (put h x) := (Puts.num_byt _).app ((body_byt _ _).app (sum4_byt _))
theorem body_len (h : Hd) (x : List ByteArray) : (body h x).length ≤ h.r.size + 15 + 5 * x.length + Puts.tot x := by
 have h1 := Puts.tx_len h.r
 have h2 := Puts.txs_len x
 have h3 := (Puts.num_len h.n).2
 have h4 := (Puts.num_len (x.length : Int)).2
 unfold body
 simp only [List.length_append]
 omega
theorem put_len (h : Hd) (x : List ByteArray) : (put h x).length ≤ (body h x).length + 9 := by
 have h3 := (Puts.num_len ((body h x).length : Int)).2
 have h4 := sum4_len (body h x)
 unfold put
 simp only [List.length_append]
 omega
theorem put_pos (h : Hd) (x : List ByteArray) : 5 ≤ (put h x).length := by
 have h3 := (Puts.num_len ((body h x).length : Int)).1
 have h4 := sum4_len (body h x)
 unfold put
 simp only [List.length_append]
 omega
def no12 (a : Int) : Hd × List ByteArray × Int × Bool := (hd0, [], a, false)
def inBody (b : List Int) : Option (Hd × List ByteArray) :=
 if (Plain.getNum b 0).2.2 = true ∧ (Plain.getText b (Plain.getNum b 0).2.1).2.2 = true ∧ (Plain.getTexts b (Plain.getText b (Plain.getNum b 0).2.1).2.1).2.2 = true ∧
   (Plain.getTexts b (Plain.getText b (Plain.getNum b 0).2.1).2.1).2.1 = (b.length : Int) ∧ okH ⟨(Plain.getNum b 0).1, (Plain.getText b (Plain.getNum b 0).2.1).1⟩ = true ∧
   ¬ (Plain.getTexts b (Plain.getText b (Plain.getNum b 0).2.1).2.1).1.length = 0
 then some (⟨(Plain.getNum b 0).1, (Plain.getText b (Plain.getNum b 0).2.1).1⟩, (Plain.getTexts b (Plain.getText b (Plain.getNum b 0).2.1).2.1).1)
 else none
def getC (xs : List Int) (a : Int) : Hd × List ByteArray × Int × Bool :=
 if (Plain.getNum xs a).2.2 = true ∧ (Plain.getNum xs a).1 ≤ (xs.length : Int) - (Plain.getNum xs a).2.1 - 4 then
  match inBody ((xs.drop (Plain.getNum xs a).2.1.toNat).take (Plain.getNum xs a).1.toNat) with
  | some (h, x) =>
   if (xs.drop ((Plain.getNum xs a).2.1.toNat + (Plain.getNum xs a).1.toNat)).take 4 = sum4 ((xs.drop (Plain.getNum xs a).2.1.toNat).take (Plain.getNum xs a).1.toNat) then
    (h, x, (Plain.getNum xs a).2.1 + (Plain.getNum xs a).1 + 4, true)
   else no12 a
  | none => no12 a
 else no12 a
theorem okH_parts {h : Hd} (hk : okH h = true) : 0 ≤ h.n ∧ h.n ≤ 200 ∧ h.r.size = 32 := by
 unfold okH at hk
 simp only [decide_eq_true_eq] at hk
 exact ⟨hk.1.1, hk.1.2, hk.2⟩
theorem inBody_body {h : Hd} {x : List ByteArray} (hk : okH h = true) (h1 : 1 ≤ x.length) (h2 : x.length ≤ 200) (hs : ∀ s ∈ x, s.size ≤ 1000000000) : inBody (body h x) = some (h, x) := by
 obtain ⟨k0, k1, k2⟩ := okH_parts hk
 have e1 : Plain.getNum (body h x) 0 = (h.n, ((Puts.num h.n).length : Int), true) := by
  have g := Plain.getNum_back [] (Puts.tx h.r ++ (Puts.num (x.length : Int) ++ Puts.txs x)) h.n
  have e : body h x = [] ++ (Puts.num h.n ++ (Puts.tx h.r ++ (Puts.num (x.length : Int) ++ Puts.txs x))) := by unfold body; simp only [List.append_assoc, List.nil_append]
  have ec : Plain.clampN h.n = h.n := by unfold Plain.clampN; rw [if_neg (by omega), if_neg (by omega)]
  rw [e]
  simpa [ec] using g
 have e2 : Plain.getText (body h x) ((Puts.num h.n).length : Int) = (h.r, (((Puts.num h.n).length + (Puts.tx h.r).length : Nat) : Int), true) := by
  have g := Plain.getText_back (Puts.num h.n) (Puts.num (x.length : Int) ++ Puts.txs x) h.r (by omega)
  have e : body h x = Puts.num h.n ++ (Puts.tx h.r ++ (Puts.num (x.length : Int) ++ Puts.txs x)) := by unfold body; simp only [List.append_assoc]
  rw [e, g]
  simp
 have e3 : Plain.getTexts (body h x) (((Puts.num h.n).length + (Puts.tx h.r).length : Nat) : Int) = (x, ((body h x).length : Int), true) := by
  have g := Plain.getTexts_back (Puts.num h.n ++ Puts.tx h.r) [] x h2 hs
  have e : body h x = (Puts.num h.n ++ Puts.tx h.r ++ Puts.num (x.length : Int) ++ Puts.txs x) ++ [] := by unfold body; simp only [List.append_assoc, List.append_nil]
  rw [List.length_append] at g
  rw [e, g]
  simp
 unfold inBody
 rw [e1]
 simp only
 rw [e2]
 simp only
 rw [e3]
 simp only
 rw [if_pos ⟨trivial, trivial, trivial, trivial, hk, by omega⟩]
theorem size_txs {t : ByteArray} : ∀ l : List ByteArray, t ∈ l → t.size ≤ (Puts.txs l).length := by
 intro l
 induction l with
 | nil => intro h; cases h
 | cons a r ih =>
  intro h
  simp only [Puts.txs, List.length_append]
  rcases List.mem_cons.1 h with rfl | h
  ·have : (Puts.tx t).length = (Puts.num (t.size : Int)).length + t.size := by unfold Puts.tx; rw [List.length_append, sb_len]
   omega
  ·have := ih h; omega
theorem body_inBody {b : List Int} {h : Hd} {x : List ByteArray} (hb : Byt b) (hi : inBody b = some (h, x)) : b = body h x ∧ okH h = true ∧ 1 ≤ x.length ∧ x.length ≤ 200 ∧ ∀ s ∈ x, s.size ≤ b.length := by
 unfold inBody at hi
 split at hi
 ·rename_i hc
  simp only [Option.some.injEq, Prod.mk.injEq] at hi
  obtain ⟨n, p, ok, hg⟩ : ∃ n p ok, Plain.getNum b 0 = (n, p, ok) := ⟨_, _, _, rfl⟩
  rw [hg] at hi hc
  simp only at hi hc
  obtain ⟨r, q, ok2, hg2⟩ : ∃ r q ok, Plain.getText b p = (r, q, ok) := ⟨_, _, _, rfl⟩
  rw [hg2] at hi hc
  simp only at hi hc
  obtain ⟨l, s, ok3, hg3⟩ : ∃ l s ok, Plain.getTexts b q = (l, s, ok) := ⟨_, _, _, rfl⟩
  have hlen := Plain.getTexts_len b q
  rw [hg3] at hi hc hlen
  simp only at hi hc hlen
  obtain ⟨rfl, rfl, rfl, hs, hk, hl⟩ := hc
  obtain ⟨rfl, rfl⟩ := hi
  obtain ⟨p', rfl, _, hn9, _, hd⟩ := Can.getNum_canon (a := 0) hb hg
  obtain ⟨q', rfl, _, hd2⟩ := Can.getText_canon hb hg2
  obtain ⟨s', hs', hd3⟩ := Can.getTexts_canon hb hg3
  have es : s' = b.length := by omega
  rw [es, List.drop_of_length_le (Nat.le_refl _), List.append_nil] at hd3
  rw [List.drop_zero] at hd
  have eb : b = body ⟨n, r⟩ l := by
   conv => lhs; rw [hd, hd2, hd3]
   unfold body
   simp only [List.append_assoc]
  refine ⟨eb, hk, by omega, hlen, ?_⟩
  intro t ht
  have h5 := size_txs l ht
  rw [eb]
  unfold body
  simp only [List.length_append]
  omega
 ·cases hi
theorem size_body {h : Hd} {x : List ByteArray} {t : ByteArray} (ht : t ∈ x) : t.size ≤ (body h x).length := by
 have := size_txs x ht
 unfold body
 simp only [List.length_append]
 omega
theorem get_sum (ys r s4 : List Int) {h : Hd} {x : List ByteArray} (hk : okH h = true) (h1 : 1 ≤ x.length) (h2 : x.length ≤ 200) (hl : (body h x).length ≤ 1000000000) (h4 : s4.length = 4) :
  getC (ys ++ (Puts.num ((body h x).length : Int) ++ (body h x ++ s4) ++ r)) (ys.length : Int) = if s4 = sum4 (body h x) then (h, x, ((ys.length + (put h x).length : Nat) : Int), true) else no12 (ys.length : Int) := by
 have hi := inBody_body hk h1 h2 (fun s h' => Nat.le_trans (size_body (h := h) h') hl)
 have e0 : (put h x).length = (Puts.num ((body h x).length : Int)).length + (body h x).length + 4 := by unfold put; simp only [List.length_append, sum4_len]; omega
 obtain ⟨B, hB⟩ : ∃ B, body h x = B := ⟨_, rfl⟩
 rw [hB] at hi hl e0 ⊢
 obtain ⟨N, hN⟩ : ∃ N, Puts.num (B.length : Int) = N := ⟨_, rfl⟩
 have g := Plain.getNum_back ys ((B ++ s4) ++ r) (B.length : Int)
 rw [Plain.clamp_size hl] at g
 rw [hN] at g e0 ⊢
 have e : ys ++ ((N ++ (B ++ s4)) ++ r) = ys ++ (N ++ ((B ++ s4) ++ r)) := by simp only [List.append_assoc]
 rw [e]
 have g2 : Plain.getNum (ys ++ (N ++ ((B ++ s4) ++ r))) (ys.length : Int) = ((B.length : Int), ((ys.length + N.length : Nat) : Int), true) := by rw [g]; simp
 have ed : (ys ++ (N ++ ((B ++ s4) ++ r))).drop (ys.length + N.length) = B ++ (s4 ++ r) := by
  rw [← List.append_assoc, List.drop_append, List.drop_eq_nil_of_le (by simp), List.nil_append, show ys.length + N.length - (ys ++ N).length = 0 by simp, List.drop_zero, List.append_assoc]
 have et : (B ++ (s4 ++ r)).take B.length = B := by rw [List.take_append_of_le_length (Nat.le_refl _), List.take_of_length_le (Nat.le_refl _)]
 have ed2 : (ys ++ (N ++ ((B ++ s4) ++ r))).drop (ys.length + N.length + B.length) = s4 ++ r := by
  rw [← List.drop_drop, ed, List.drop_append, List.drop_eq_nil_of_le (Nat.le_refl _), Nat.sub_self, List.drop_zero, List.nil_append]
 have et2 : (s4 ++ r).take 4 = s4 := by rw [List.take_append_of_le_length (by omega), List.take_of_length_le (by omega)]
 have hlen : (ys ++ (N ++ ((B ++ s4) ++ r))).length = ys.length + N.length + B.length + 4 + r.length := by
  simp only [List.length_append]; omega
 unfold getC
 rw [g2]
 simp only [Int.toNat_natCast]
 rw [if_pos ⟨trivial, by rw [hlen]; omega⟩, ed, et, hi]
 simp only
 rw [ed2, et2]
 split
 ·simp only [e0, Prod.mk.injEq, true_and, and_true]
  omega
 ·rfl
theorem get_put (ys r : List Int) {h : Hd} {x : List ByteArray} (hk : okH h = true) (h1 : 1 ≤ x.length) (h2 : x.length ≤ 200) (hl : (body h x).length ≤ 1000000000) :
  getC (ys ++ (put h x ++ r)) (ys.length : Int) = (h, x, ((ys.length + (put h x).length : Nat) : Int), true) := by
 have g := get_sum ys r (sum4 (body h x)) hk h1 h2 hl (sum4_len _)
 rw [if_pos rfl] at g
 exact g
theorem put_get {xs : List Int} {a : Nat} {h : Hd} {x : List ByteArray} {p : Int} (hb : Byt xs) (hg : getC xs (a : Int) = (h, x, p, true)) :
  ∃ q : Nat, p = (q : Int) ∧ q = a + (put h x).length ∧ q ≤ xs.length ∧ okH h = true ∧ 1 ≤ x.length ∧ x.length ≤ 200 ∧ (body h x).length ≤ 1000000000 ∧ xs.drop a = put h x ++ xs.drop q := by
 unfold getC at hg
 split at hg
 ·rename_i hc
  obtain ⟨n, p', ok, hn⟩ : ∃ n p ok, Plain.getNum xs (a : Int) = (n, p, ok) := ⟨_, _, _, rfl⟩
  rw [hn] at hg hc
  simp only at hg hc
  obtain ⟨rfl, hc⟩ := hc
  obtain ⟨q', rfl, hn0, hn9, ha, hd⟩ := Can.getNum_canon hb hn
  obtain ⟨m, rfl⟩ : ∃ m : Nat, n = (m : Int) := ⟨n.toNat, by omega⟩
  simp only [Int.toNat_natCast] at hg
  split at hg
  ·rename_i h' x' hi
   split at hg
   ·rename_i h4
    simp only [Prod.mk.injEq, and_true] at hg
    obtain ⟨rfl, rfl, rfl⟩ := hg
    obtain ⟨hbd, hk, h1, h2, hs⟩ := body_inBody (fun y hy => hb y (List.mem_of_mem_drop (List.mem_of_mem_take hy))) hi
    have hbl : ((xs.drop q').take m).length = m := by rw [List.length_take, List.length_drop]; omega
    have hd2 : xs.drop a = put h' x' ++ xs.drop (q' + m + 4) := by
     rw [hd]
     unfold put
     rw [← hbd, hbl, ← h4, List.append_assoc, List.append_assoc]
     congr 1
     rw [← List.drop_drop (i := 4), List.take_append_drop, ← List.drop_drop, List.take_append_drop]
    have hl := congrArg List.length hd2
    simp only [List.length_append, List.length_drop] at hl
    refine ⟨q' + m + 4, by omega, by omega, by omega, hk, h1, h2, by rw [← hbd, hbl]; omega, hd2⟩
   ·simp [no12] at hg
  ·simp [no12] at hg
 ·simp [no12] at hg
theorem getC_no {xs : List Int} {a : Int} (h : (getC xs a).2.2.2 = false) : getC xs a = no12 a := by
 unfold getC at h ⊢
 split at h
 ·rename_i hc
  rw [if_pos hc]
  split at h
  ·rename_i h' x' hi
   split at h
   ·cases h
   ·rename_i h4
    rw [if_neg h4]
  ·rfl
 ·rename_i hc
  rw [if_neg hc]
end Go.Proofs.YtchonoonclllbaaGreatDoor.Sr
namespace Go.Proofs.YtchonoonclllbaaGreatDoor.Lg
open Go.RowKit Mem Laws Bytes Sha Tr He
def extend (l : List ByteArray) (hd : Hd) (t : List Hd) (h : Hd) (x : List ByteArray) : List ByteArray × Hd × Int :=
 if logOk l hd = true ∧ okH h = true ∧ h.n = ((l ++ x).length : Int) then
  if signed t h = true then
   if x.length = 0 then (l, hd, 3) else if eqH h (headOf (l ++ x)) = true then (l ++ x, h, 0) else (l, hd, 4)
  else (l, hd, 2)
 else (l, hd, 1)
theorem extend1 {l : List ByteArray} {hd : Hd} {h : Hd} {x : List ByteArray} (hk : ¬ (logOk l hd = true ∧ okH h = true ∧ h.n = ((l ++ x).length : Int))) (t : List Hd) : extend l hd t h x = (l, hd, 1) := by unfold extend; rw [if_neg hk]
theorem extend2 {l : List ByteArray} {hd : Hd} {t : List Hd} {h : Hd} {x : List ByteArray} (hk : logOk l hd = true ∧ okH h = true ∧ h.n = ((l ++ x).length : Int)) (hs : signed t h = false) : extend l hd t h x = (l, hd, 2) := by unfold extend; rw [if_pos hk, if_neg (by simp [hs])]
theorem extend3 {l : List ByteArray} {hd : Hd} {t : List Hd} {h : Hd} {x : List ByteArray} (hk : logOk l hd = true ∧ okH h = true ∧ h.n = ((l ++ x).length : Int)) (hs : signed t h = true) (hx : x.length = 0) : extend l hd t h x = (l, hd, 3) := by unfold extend; rw [if_pos hk, if_pos hs, if_pos hx]
theorem extend4 {l : List ByteArray} {hd : Hd} {t : List Hd} {h : Hd} {x : List ByteArray} (hk : logOk l hd = true ∧ okH h = true ∧ h.n = ((l ++ x).length : Int)) (hs : signed t h = true) (hx : ¬ x.length = 0) (he : eqH h (headOf (l ++ x)) = false) : extend l hd t h x = (l, hd, 4) := by unfold extend; rw [if_pos hk, if_pos hs, if_neg hx, if_neg (by simp [he])]
theorem extend0 {l : List ByteArray} {hd : Hd} {t : List Hd} {h : Hd} {x : List ByteArray} (hk : logOk l hd = true ∧ okH h = true ∧ h.n = ((l ++ x).length : Int)) (hs : signed t h = true) (hx : ¬ x.length = 0) (he : eqH h (headOf (l ++ x)) = true) : extend l hd t h x = (l ++ x, h, 0) := by unfold extend; rw [if_pos hk, if_pos hs, if_neg hx, if_pos he]
theorem size_app {l x : List ByteArray} {N : Nat} (h1 : ∀ s ∈ l, s.size ≤ N) (h2 : ∀ s ∈ x, s.size ≤ N) : ∀ s ∈ l ++ x, s.size ≤ N := by
 intro s hs
 rcases List.mem_append.1 hs with h | h
 ·exact h1 s h
 ·exact h2 s h
set_option maxRecDepth 1000000 in
theorem extend_spec (w : World) (v vt vx : Value) (l x : List ByteArray) (hd h : Hd) (t : List Hd) (hs : Sl w v (ss l)) (ht : Sh w vt t) (hsx : Sl w vx (ss x)) (hl : l.length ≤ 1000000000) (htl : t.length ≤ 1000000000) (hx : x.length ≤ 1000000000) (hz : ∀ s ∈ l, s.size ≤ 10000000000) (hzx : ∀ s ∈ x, s.size ≤ 10000000000) :
  Calls Tryz.prog 174 #[.agg #[v, .int .i64 hd.n, .string hd.r], vt, .agg #[.int .i64 h.n, .string h.r], vx] w fun e w' => ∃ v', e = .returned (.tuple #[.agg #[v', .int .i64 (extend l hd t h x).2.1.n, .string (extend l hd t h x).2.1.r], .int .i64 (extend l hd t h x).2.2]) ∧ Own w' w.heap.size w'.heap.size 9 v' (ss (extend l hd t h x).1) ∧ Below w.heap.size w w' := by
 obtain ⟨i0, hi, hz0, hz1, hz2⟩ := info_parts info9t
 have HS : Hid (Sl w v (ss l)) := hs
 have HSX : Hid (Sl w vx (ss x)) := hsx
 have HT : Hid (Sh w vt t) := ht
 obtain ⟨ao0, cap0, rfl, hc0⟩ := hs.form
 obtain ⟨ao1, cap1, rfl, hc1⟩ := hsx.form
 obtain ⟨ao2, cap2, rfl, hc2⟩ := ht.form
 simp only [ss_len] at *
 clear hs hsx ht
 have B0 : Hid (Below w.heap.size w w) := Below.refl _ _
 obtain ⟨W1, HW1, b1, y1, hS1, r_a1, r_h1, r_res1⟩ := Ke.l3 w #[.slice ao0 l.length cap0, .int .i64 hd.n, .string hd.r] 28 #[.int .i64 h.n, .string h.r] 26 #[.slice none 0 0, .int .i64 0, .string ⟨#[]⟩] 28
 have z1 := b1.size
 have B1 := Ke.b B0 b1
 have hqA : ∀ W v1, Sl W v1 (ss l) → _ := fun W v1 h1 => logok_spec W v1 l hd h1 (by omega) hz
 have hqO : ∀ W v1, Sl W v1 (ss (l ++ x)) → _ := fun W v1 h1 => headOf_spec W v1 (l ++ x) h1 (by rw [List.length_append]; omega) (size_app hz hzx)
 have hqH : ∀ W, _ := fun W => ok_spec W h
 have hqS : ∀ W v1, Sh W v1 t → _ := fun W v1 h1 => signed_spec W v1 t h h1 (by omega)
 have hall : ((l ++ x).length : Int) = ((l.length + x.length : Nat) : Int) := by rw [List.length_append]
 have HALL : Hid (((l ++ x).length : Int) = ((l.length + x.length : Nat) : Int)) := hall
 clear hall
 obtain ⟨A, hA⟩ : ∃ A, logOk l hd = A := ⟨_, rfl⟩
 obtain ⟨C, hC⟩ : ∃ A, okH h = A := ⟨_, rfl⟩
 obtain ⟨D, hD⟩ : ∃ A, signed t h = A := ⟨_, rfl⟩
 obtain ⟨M, hM⟩ : ∃ A, headOf (l ++ x) = A := ⟨_, rfl⟩
 obtain ⟨E, hE⟩ : ∃ A, eqH h M = A := ⟨_, rfl⟩
 have e1 : ∀ W, _ := fun W => neqH W h M
 have e2 : ∀ W op y z xs ys, _ := fun W op y z xs ys => grdH W op y z xs ys
 simp only [hA] at hqA
 simp only [hC] at hqH
 simp only [hD] at hqS
 simp only [hM] at hqO
 simp only [hE] at e1
 have HA : Hid (logOk l hd = A) := hA
 have HC : Hid (okH h = C) := hC
 have HD : Hid (signed t h = D) := hD
 have HE : Hid (eqH h (headOf (l ++ x)) = E) := by show _ = _; rw [hM]; exact hE
 clear hA hC hD hM hE hz hzx
 obtain ⟨R, hR⟩ : ∃ R, extend l hd t h x = R := ⟨_, rfl⟩
 have HR : Hid (extend l hd t h x = R) := hR
 rw [hR]
 clear hR
 go_enter Tryz.func174, Tryz.ntmps174
 go_wp2_with fail
 rw [HW1.out]
 refine (copy_spec W1 _ l hd (HS.out.later B1.out) hl).mono ?_
 rintro e W2 ⟨v_s, rfl, o_s2, b2⟩
 obtain ⟨ao_s, L_s, cap_s, rfl, hL_s, hM_s⟩ := o_s2.form
 have o_s2 : Hid (Own W2 W1.heap.size W2.heap.size 9 (.slice ao_s L_s cap_s) (ss l)) := o_s2
 clear hL_s hM_s
 have z2 := b2.size
 have B2 := Ke.b B1 b2
 have r_a2 := Ke.r r_a1 b2
 have r_h2 := Ke.r r_h1 b2
 have r_res2 := Ke.r r_res1 b2
 clear r_a1 r_h1 r_res1
 obtain ⟨W3, HW3, b3, y3, hS3, r_same3⟩ := Ke.l1 W2 #[.slice ao_s L_s cap_s, .int .i64 hd.n, .string hd.r] 28
 have z3 := b3.size
 have B3 := Ke.b B2 b3
 have r_a3 := Ke.r r_a2 b3
 have r_h3 := Ke.r r_h2 b3
 have r_res3 := Ke.r r_res2 b3
 have o_s3 := Ke.o o_s2 b3
 have a_a3 := Ke.a r_a3
 have a_a3 := Ke.a r_a3
 have a_a3 := Ke.a r_a3
 have a_h3 := Ke.a r_h3
 have a_res3 := Ke.a r_res3
 have a_same3 := Ke.a r_same3
 clear r_a2 r_h2 r_res2 o_s2
 have aa_a3_0 := a_a3
 rw [← HW3.out] at aa_a3_0
 have aa_a3_1 := a_a3
 rw [← HW3.out] at aa_a3_1
 have aa_a3_2 := a_a3
 rw [← HW3.out] at aa_a3_2
 have aa_h3_0 := a_h3
 rw [← HW3.out] at aa_h3_0
 have aa_h3_1 := a_h3
 rw [← HW3.out] at aa_h3_1
 have aa_res3_0 := a_res3
 rw [← HW3.out] at aa_res3_0
 have aa_res3_1 := a_res3
 rw [← HW3.out] at aa_res3_1
 have aa_res3_2 := a_res3
 rw [← HW3.out] at aa_res3_2
 have aa_same3_0 := a_same3
 rw [← HW3.out] at aa_same3_0
 have aa_same3_1 := a_same3
 rw [← HW3.out] at aa_same3_1
 have aa_same3_2 := a_same3
 rw [← HW3.out] at aa_same3_2
 have oE4 : Hid (Own (W3.alloc (.cells #[] 9)) W3.heap.size (W3.alloc (.cells #[] 9)).heap.size 9 (.slice (some ⟨W2.heap.size + 1, 0, none⟩) 0 0) (ss [])) := by show Own _ _ _ _ _ _; have h := emptyT W3 W3.heap.size (Nat.le_refl _); rw [hS3.out] at h ⊢; exact h
 have c6_4 : (ss []).length + (ss l).length ≤ maxLen := (by rw [ss_len, ss_len]; unfold maxLen; (try simp only [List.length_nil]); omega)
 have c7_4 : ((ss []).length + (ss l).length) * 16 ≤ 140737488355328 := (by rw [ss_len, ss_len]; (try simp only [List.length_nil]); omega)
 have sE4 : Hid (Sl (W3.alloc (.cells #[] 9)) _ (ss l)) := HS.out.later (B3.out.alloc B3.out.size _)
 go_wp2_with (at_builtin; rw [HW3.out]; go_must (refine wpl_app _ rfl (.tmp 14) (.tmp 16) 24 rfl 9 i0 (.string ⟨#[]⟩) 16 Tryz.underlying24 hi hz0 hz1 hz2 rfl (W3.heap.size) _ (ss []) rfl oE4.out _ rfl (ss l) sE4.out (ss_one l) c6_4 c7_4 (by simp) ?_))
 intro v_p W4 o_p4 q4 _
 clear aa_a3_0 aa_a3_1 aa_a3_2 aa_h3_0 aa_h3_1 aa_res3_0 aa_res3_1 aa_res3_2 aa_same3_0 aa_same3_1 aa_same3_2
 have b4 : Below W3.heap.size W3 W4 := ((Below.refl _ _).alloc (Nat.le_refl _) _).trans q4
 obtain ⟨ao_p, L_p, cap_p, rfl, _, _⟩ := o_p4.form
 have o_p4 : Hid (Own W4 (W3.heap.size) W4.heap.size 9 (.slice ao_p L_p cap_p) (ss l)) := o_p4
 clear q4 oE4 sE4 c6_4 c7_4
 have z4 := b4.size
 have B4 := Ke.b B3 b4
 have r_a4 := Ke.r r_a3 b4
 have r_h4 := Ke.r r_h3 b4
 have r_res4 := Ke.r r_res3 b4
 have r_same4 := Ke.r r_same3 b4
 have o_s4 := Ke.o o_s3 b4
 clear r_a3 a_a3 r_h3 a_h3 r_res3 a_res3 r_same3 a_same3 o_s3
 have c6_5 : (ss l).length + (ss x).length ≤ maxLen := (by rw [ss_len, ss_len]; unfold maxLen; (try simp only [List.length_nil]); omega)
 have c7_5 : ((ss l).length + (ss x).length) * 16 ≤ 140737488355328 := (by rw [ss_len, ss_len]; (try simp only [List.length_nil]); omega)
 have sE5 : Hid (Sl W4 _ (ss x)) := HSX.out.later B4.out
 go_wp2_with (at_builtin; go_must (refine wpl_app _ rfl (.tmp 17) (.tmp 18) 24 rfl 9 i0 (.string ⟨#[]⟩) 16 Tryz.underlying24 hi hz0 hz1 hz2 rfl (W3.heap.size) _ (ss l) rfl (Own.mono o_p4.out (Nat.le_refl _) (by omega)) _ rfl (ss x) sE5.out (ss_one x) c6_5 c7_5 (by omega) ?_))
 intro v_all W5 o_all5 q5 _
 obtain ⟨ao_all, L_all, cap_all, rfl, _, _⟩ := o_all5.form
 have o_all5 : Hid (Own W5 (W3.heap.size) W5.heap.size 9 (.slice ao_all L_all cap_all) (ss (l ++ x))) := by show Own _ _ _ _ _ _; rw [ss_app]; exact o_all5
 have z5 : W4.heap.size ≤ W5.heap.size := q5.size
 have B5 : Hid (Below w.heap.size w W5) := B4.out.trans (q5.mono (by have := B4.out.size; omega))
 have r_a5 : Hid (W5.heap[w.heap.size]? = some (.cells #[.slice ao0 l.length cap0, .int .i64 hd.n, .string hd.r] 28 (0, 0))) := (q5.block (w.heap.size) (by omega)).trans r_a4.out
 have r_h5 : Hid (W5.heap[w.heap.size + 1]? = some (.cells #[.int .i64 h.n, .string h.r] 26 (0, 0))) := (q5.block (w.heap.size + 1) (by omega)).trans r_h4.out
 have r_res5 : Hid (W5.heap[w.heap.size + 1 + 1]? = some (.cells #[.slice none 0 0, .int .i64 0, .string ⟨#[]⟩] 28 (0, 0))) := (q5.block (w.heap.size + 1 + 1) (by omega)).trans r_res4.out
 have r_same5 : Hid (W5.heap[W2.heap.size]? = some (.cells #[.slice ao_s L_s cap_s, .int .i64 hd.n, .string hd.r] 28 (0, 0))) := (q5.block (W2.heap.size) (by omega)).trans r_same4.out
 have o_s5 : Hid (Own W5 (W1.heap.size) (W2.heap.size) 9 (.slice ao_s L_s cap_s) (ss l)) := Own.later o_s4.out q5 (by omega)
 have c_a5 := Ke.c r_a5
 clear r_a4 r_h4 r_res4 r_same4 o_s4 o_p4
 clear q5 sE5 c6_5 c7_5
 have hLall : L_all ≤ l.length + x.length ∧ l.length + x.length ≤ L_all := by obtain ⟨a9, L9, c9, he, h1, h2⟩ := Mem.Own.form o_all5.out; injection he with _ he2 _; rw [ss_len, List.length_append] at h1 h2; omega
 go_wp2_with fail
 refine (hqA W5 _ (HS.out.later B5.out)).mono ?_
 rintro e W6 ⟨rfl, b6⟩
 have z6 := b6.size
 have B6 := Ke.b B5 b6
 have r_h6 := Ke.r r_h5 b6
 have r_res6 := Ke.r r_res5 b6
 have r_same6 := Ke.r r_same5 b6
 have o_s6 := Ke.o o_s5 b6
 have o_all6 := Ke.o o_all5 b6
 have c_h6 := Ke.c r_h6
 clear r_a5 c_a5 r_h5 r_res5 r_same5 o_s5 o_all5
 cases A
 ·have hA := HA.out
  have HN : Hid (R = (l, hd, 1)) := by show _ = _; rw [← HR.out]; exact extend1 (fun hk => by rw [hA] at hk; exact absurd hk.1 (by simp)) t
  go_wp2_with (first | (refine wpList_load_row rfl 28 _ rfl (W2.heap.size) rfl 28 (lc (.slice ao_s L_s cap_s) hd) (0, 0) _ r_same6.out Tryz.underlying28 rfl (sizeL _ _) ?_) | (refine wpList_store_row rfl 28 _ _ rfl (w.heap.size + 1 + 1) (lc (.slice ao_s L_s cap_s) hd) rfl rfl 28 _ r_res6.out (sizeL _ _) rfl (oneL _ rfl) ?_))
  refine bodyPost_ret (res_row_tmp rfl _ _ (w.heap.size + 1 + 1) 28 (lc (.slice ao_s L_s cap_s) hd) (0, 0) _ rfl (setRow_heap _ _ _ _ _ (0, 0) r_res6.out) Tryz.underlying28 rfl (sizeL _ _)) rfl ⟨.slice ao_s L_s cap_s, by rw [HN.out]; rfl, ?_, below_setRow B6.out (by omega) _⟩
  rw [HN.out]
  exact (Own.setRow o_s6.out _ (by omega)).mono (by omega) (by rw [size_setRow]; omega)
 ·go_wp2_with fail
  refine (hqH W6).mono ?_
  rintro e W7 ⟨rfl, b7⟩
  have z7 := b7.size
  have B7 := Ke.b B6 b7
  have r_h7 := Ke.r r_h6 b7
  have r_res7 := Ke.r r_res6 b7
  have r_same7 := Ke.r r_same6 b7
  have o_s7 := Ke.o o_s6 b7
  have o_all7 := Ke.o o_all6 b7
  have c_h7 := Ke.c r_h7
  clear r_h6 c_h6 r_res6 r_same6 o_s6 o_all6
  cases C
  ·have hC := HC.out
   have HN : Hid (R = (l, hd, 1)) := by show _ = _; rw [← HR.out]; exact extend1 (fun hk => by rw [hC] at hk; exact absurd hk.2.1 (by simp)) t
   go_wp2_with (first | (refine wpList_load_row rfl 28 _ rfl (W2.heap.size) rfl 28 (lc (.slice ao_s L_s cap_s) hd) (0, 0) _ r_same7.out Tryz.underlying28 rfl (sizeL _ _) ?_) | (refine wpList_store_row rfl 28 _ _ rfl (w.heap.size + 1 + 1) (lc (.slice ao_s L_s cap_s) hd) rfl rfl 28 _ r_res7.out (sizeL _ _) rfl (oneL _ rfl) ?_))
   refine bodyPost_ret (res_row_tmp rfl _ _ (w.heap.size + 1 + 1) 28 (lc (.slice ao_s L_s cap_s) hd) (0, 0) _ rfl (setRow_heap _ _ _ _ _ (0, 0) r_res7.out) Tryz.underlying28 rfl (sizeL _ _)) rfl ⟨.slice ao_s L_s cap_s, by rw [HN.out]; rfl, ?_, below_setRow B7.out (by omega) _⟩
   rw [HN.out]
   exact (Own.setRow o_s7.out _ (by omega)).mono (by omega) (by rw [size_setRow]; omega)
  ·by_cases hn : h.n = (L_all : Int)
   ·have hk : logOk l hd = true ∧ okH h = true ∧ h.n = ((l ++ x).length : Int) := ⟨HA.out, HC.out, by rw [HALL.out, hn]; omega⟩
    have HK : Hid (logOk l hd = true ∧ okH h = true ∧ h.n = ((l ++ x).length : Int)) := hk
    have nn : (h.n != (L_all : Int)) = false := by simp [hn]
    have ne : (h.n == (L_all : Int)) = true := by simp [hn]
    clear hk hn
    go_wp2_with fail
    refine (hqS W7 _ (HT.out.later B7.out)).mono ?_
    rintro e W8 ⟨rfl, b8⟩
    have z8 := b8.size
    have B8 := Ke.b B7 b8
    have r_h8 := Ke.r r_h7 b8
    have r_res8 := Ke.r r_res7 b8
    have r_same8 := Ke.r r_same7 b8
    have o_s8 := Ke.o o_s7 b8
    have o_all8 := Ke.o o_all7 b8
    have c_h8 := Ke.c r_h8
    clear r_h7 c_h7 r_res7 r_same7 o_s7 o_all7
    cases D
    ·have HN : Hid (R = (l, hd, 2)) := by show _ = _; rw [← HR.out]; exact extend2 HK.out HD.out
     go_wp2_with (first | (refine wpList_load_row rfl 28 _ rfl (W2.heap.size) rfl 28 (lc (.slice ao_s L_s cap_s) hd) (0, 0) _ r_same8.out Tryz.underlying28 rfl (sizeL _ _) ?_) | (refine wpList_store_row rfl 28 _ _ rfl (w.heap.size + 1 + 1) (lc (.slice ao_s L_s cap_s) hd) rfl rfl 28 _ r_res8.out (sizeL _ _) rfl (oneL _ rfl) ?_))
     refine bodyPost_ret (res_row_tmp rfl _ _ (w.heap.size + 1 + 1) 28 (lc (.slice ao_s L_s cap_s) hd) (0, 0) _ rfl (setRow_heap _ _ _ _ _ (0, 0) r_res8.out) Tryz.underlying28 rfl (sizeL _ _)) rfl ⟨.slice ao_s L_s cap_s, by rw [HN.out]; rfl, ?_, below_setRow B8.out (by omega) _⟩
     rw [HN.out]
     exact (Own.setRow o_s8.out _ (by omega)).mono (by omega) (by rw [size_setRow]; omega)
    ·by_cases hx0 : x.length = 0
     ·have gx : (x.length : Int) = 0 := by omega
      have HX0 : Hid (x.length = 0) := hx0
      clear hx0
      have HN : Hid (R = (l, hd, 3)) := by show _ = _; rw [← HR.out]; exact extend3 HK.out HD.out HX0.out
      go_wp2_with (first | (refine wpList_load_row rfl 28 _ rfl (W2.heap.size) rfl 28 (lc (.slice ao_s L_s cap_s) hd) (0, 0) _ r_same8.out Tryz.underlying28 rfl (sizeL _ _) ?_) | (refine wpList_store_row rfl 28 _ _ rfl (w.heap.size + 1 + 1) (lc (.slice ao_s L_s cap_s) hd) rfl rfl 28 _ r_res8.out (sizeL _ _) rfl (oneL _ rfl) ?_))
      refine bodyPost_ret (res_row_tmp rfl _ _ (w.heap.size + 1 + 1) 28 (lc (.slice ao_s L_s cap_s) hd) (0, 0) _ rfl (setRow_heap _ _ _ _ _ (0, 0) r_res8.out) Tryz.underlying28 rfl (sizeL _ _)) rfl ⟨.slice ao_s L_s cap_s, by rw [HN.out]; rfl, ?_, below_setRow B8.out (by omega) _⟩
      rw [HN.out]
      exact (Own.setRow o_s8.out _ (by omega)).mono (by omega) (by rw [size_setRow]; omega)
     ·have gx : ¬ (x.length : Int) = 0 := by omega
      go_wp2_with fail
      refine wp_region_held_drew (S := fun w' => w'.cell? ⟨w.heap.size + 1, 0, none⟩ = some (.int .i64 h.n) ∧ w'.cell? ⟨w.heap.size + 1, 1, none⟩ = some (.string h.r)) (by kernel_rfl) ⟨(c_h8 0), (c_h8 1)⟩ (fun hHeld => ?_)
      refine Ke.q 0 ?_; try simp only [Act.put, pq]
      refine Ke.q 1 ?_; try simp only [Act.put, pq]
      refine Ke.z 2 rfl (fun K hK => ?_)
      go_simp
      refine (hqO W8.drew _ (Own.sl (w := W8.drew) o_all8.out)).mono ?_
      rintro e W9 ⟨rfl, b9⟩
      have b9 : Below W8.heap.size W8 W9 := (Below.drew (Below.refl _ _)).trans b9
      refine hK.out _ _ ⟨keepR (W := W8) hHeld.1 b9, keepR (W := W8) hHeld.2 b9⟩ (fun hHeld => ?_)
      clear hK K
      try simp only [Act.put, pq]
      have z9 := b9.size
      have B9 := Ke.b B8 b9
      have r_h9 := Ke.r r_h8 b9
      have r_res9 := Ke.r r_res8 b9
      have r_same9 := Ke.r r_same8 b9
      have o_s9 := Ke.o o_s8 b9
      have o_all9 := Ke.o o_all8 b9
      have c_h9 := Ke.c r_h9
      clear r_h8 c_h8 r_res8 r_same8 o_s8 o_all8
      refine Ke.q 3 ?_; try simp only [Act.put, pq]
      refine Ke.q 4 ?_; try simp only [Act.put, pq]
      refine wpAnyH_done (by kernel_rfl) ?_ _
      clear hHeld
      cases E
      ·have HN : Hid (R = (l, hd, 4)) := by show _ = _; rw [← HR.out]; exact extend4 HK.out HD.out hx0 HE.out
       go_wp2_with (first | (refine wpList_load_row rfl 28 _ rfl (W2.heap.size) rfl 28 (lc (.slice ao_s L_s cap_s) hd) (0, 0) _ r_same9.out Tryz.underlying28 rfl (sizeL _ _) ?_) | (refine wpList_store_row rfl 28 _ _ rfl (w.heap.size + 1 + 1) (lc (.slice ao_s L_s cap_s) hd) rfl rfl 28 _ r_res9.out (sizeL _ _) rfl (oneL _ rfl) ?_))
       refine bodyPost_ret (res_row_tmp rfl _ _ (w.heap.size + 1 + 1) 28 (lc (.slice ao_s L_s cap_s) hd) (0, 0) _ rfl (setRow_heap _ _ _ _ _ (0, 0) r_res9.out) Tryz.underlying28 rfl (sizeL _ _)) rfl ⟨.slice ao_s L_s cap_s, by rw [HN.out]; rfl, ?_, below_setRow B9.out (by omega) _⟩
       rw [HN.out]
       exact (Own.setRow o_s9.out _ (by omega)).mono (by omega) (by rw [size_setRow]; omega)
      ·have HN : Hid (R = (l ++ x, h, 0)) := by show _ = _; rw [← HR.out]; exact extend0 HK.out HD.out hx0 HE.out
       go_wp2_with (refine wpList_store_row rfl 28 _ _ rfl (w.heap.size + 1 + 1) (lc (.slice ao_all L_all cap_all) h) rfl rfl 28 _ r_res9.out (sizeL _ _) rfl (oneL _ rfl) ?_)
       refine bodyPost_ret (res_row_tmp rfl _ _ (w.heap.size + 1 + 1) 28 (lc (.slice ao_all L_all cap_all) h) (0, 0) _ rfl (setRow_heap _ _ _ _ _ (0, 0) r_res9.out) Tryz.underlying28 rfl (sizeL _ _)) rfl ⟨.slice ao_all L_all cap_all, by rw [HN.out]; rfl, ?_, below_setRow B9.out (by omega) _⟩
       rw [HN.out]
       exact (Own.setRow o_all9.out _ (by omega)).mono (by omega) (by rw [size_setRow]; omega)
   ·have nn : (h.n != (L_all : Int)) = true := by simp [hn]
    have ne : (h.n == (L_all : Int)) = false := by simp [hn]
    have HN : Hid (R = (l, hd, 1)) := by show _ = _; rw [← HR.out]; exact extend1 (fun hk => hn (by rw [hk.2.2, HALL.out]; omega)) t
    go_wp2_with (first | (refine wpList_load_row rfl 28 _ rfl (W2.heap.size) rfl 28 (lc (.slice ao_s L_s cap_s) hd) (0, 0) _ r_same7.out Tryz.underlying28 rfl (sizeL _ _) ?_) | (refine wpList_store_row rfl 28 _ _ rfl (w.heap.size + 1 + 1) (lc (.slice ao_s L_s cap_s) hd) rfl rfl 28 _ r_res7.out (sizeL _ _) rfl (oneL _ rfl) ?_))
    refine bodyPost_ret (res_row_tmp rfl _ _ (w.heap.size + 1 + 1) 28 (lc (.slice ao_s L_s cap_s) hd) (0, 0) _ rfl (setRow_heap _ _ _ _ _ (0, 0) r_res7.out) Tryz.underlying28 rfl (sizeL _ _)) rfl ⟨.slice ao_s L_s cap_s, by rw [HN.out]; rfl, ?_, below_setRow B7.out (by omega) _⟩
    rw [HN.out]
    exact (Own.setRow o_s7.out _ (by omega)).mono (by omega) (by rw [size_setRow]; omega)
end Go.Proofs.YtchonoonclllbaaGreatDoor.Lg
