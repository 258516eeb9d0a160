/- Texts in one: Plain3, EntP, EntS, EntJ, EntK, EntL, EntM. -/
import Derived.Test.YtljlcelbhlkmcabGreatDoorPk3
import Derived.Test.YtljlcelbhlkmcabGreatDoorPk12
import Derived.Test.YtljlcelbhlkmcabGreatDoorPk13
import Derived.Test.YtljlcelbhlkmcabGreatDoorPk14
import Derived.Test.YtljlcelbhlkmcabGreatDoorPk21
import Derived.Test.YtljlcelbhlkmcabGreatDoorPk17
import Derived.Test.YtljlcelbhlkmcabGreatDoorPk18
import Derived.Test.YtljlcelbhlkmcabGreatDoorPk19
/- Plain lists and numbers: what was put is got back. -/
namespace Go.Proofs.YtljlcelbhlkmcabGreatDoor.Plain
open Go.Proofs.YtljlcelbhlkmcabGreatDoor.Mem Go.Proofs.YtljlcelbhlkmcabGreatDoor.Laws Go.Proofs.YtljlcelbhlkmcabGreatDoor.Puts Go.Proofs.YtljlcelbhlkmcabGreatDoor.Gets

theorem split_mul (m : Nat) (W : Int) : ((m % 128 : Nat) : Int) * W + ((m / 128 : Nat) : Int) * (W * 128) = (m : Int) * W := by
  have h : (m : Int) = ((m / 128 : Nat) : Int) * 128 + ((m % 128 : Nat) : Int) := by omega
  have e : (m : Int) * W = (((m / 128 : Nat) : Int) * 128 + ((m % 128 : Nat) : Int)) * W := by rw [← h]
  rw [e, Int.add_mul, Int.mul_assoc, Int.mul_comm 128 W, Int.add_comm]

theorem dec_enc (f : Nat) : ∀ (m : Nat) (k : Nat) (N W : Int) (r : List Int), m ≤ f → 0 ≤ N → 0 ≤ W → N + (m : Int) * W ≤ 1000000000 → k + (enc m).length ≤ 5 → (k = 0 ∨ 0 < m) → dec k N W (enc m ++ r) = some (N + (m : Int) * W, k + (enc m).length) := by
  induction f with
  | zero =>
    intro m k N W r hm h0 hW hN hk hz
    obtain rfl : m = 0 := by omega
    rw [enc_small (by omega)] at hk ⊢
    have hk0 : k = 0 := by omega
    subst hk0
    exact dec_good (by omega) (by omega) (by rintro (h | h) <;> simp at * <;> omega)
  | succ f ih =>
    intro m k N W r hm h0 hW hN hk hz
    by_cases hs : m < 128
    · rw [enc_small hs] at hk ⊢
      have e : ((m : Nat) : Int) % 128 = (m : Int) := by omega
      have hg := dec_good (k := k) (N := N) (W := W) (c := (m : Int)) (r := r) (by simp at hk; omega) (by omega) (by rw [e]; omega)
      rw [e] at hg
      exact hg
    · rw [enc_step hs] at hk ⊢
      simp only [List.length_cons] at hk
      have e : ((m % 128 + 128 : Nat) : Int) % 128 = ((m % 128 : Nat) : Int) := by omega
      have hstep := dec_more (k := k) (N := N) (W := W) (c := ((m % 128 + 128 : Nat) : Int)) (r := enc (m / 128) ++ r) (by omega) (by omega)
      rw [e] at hstep
      have hsm := split_mul m W
      have hp : 0 ≤ ((m % 128 : Nat) : Int) * W := Int.mul_nonneg (by omega) hW
      have hih := ih (m / 128) (k + 1) (N + ((m % 128 : Nat) : Int) * W) (W * 128) r (by omega) (by omega) (by omega) (by omega) (by omega) (.inr (by omega))
      rw [List.cons_append, hstep, hih]
      simp only [List.length_cons, Option.some.injEq, Prod.mk.injEq]
      omega

theorem num_eq (n : Int) : num n = enc (clampN n).toNat := rfl

/-- A number comes back. -/
theorem getNum_back (ys r : List Int) (n : Int) : getNum (ys ++ (num n ++ r)) (ys.length : Int) = (clampN n, (ys.length : Int) + (num n).length, true) := by
  have hb := clampN_bd n
  have hl := num_len n
  have e : ((clampN n).toNat : Int) = clampN n := by omega
  have hd := dec_enc (clampN n).toNat (clampN n).toNat 0 0 1 r (Nat.le_refl _) (by omega) (by omega) (by omega) (by rw [← num_eq]; omega) (.inl rfl)
  rw [← num_eq] at hd
  have hlen : ys.length < (ys ++ (num n ++ r)).length := by simp; omega
  have h := getNum_some (xs := ys ++ (num n ++ r)) (a := ys.length) hlen (by rw [List.drop_append, List.drop_eq_nil_of_le (Nat.le_refl _), Nat.sub_self, List.nil_append, List.drop_zero]; exact hd)
  rw [h]
  simp only [Prod.mk.injEq, and_true]
  omega

theorem dec_big (l : List Int) : ∀ (k : Nat) (N W : Int), (∀ c ∈ l, 128 ≤ c) → dec k N W l = none := by
  induction l with
  | nil => intro k N W _; rfl
  | cons c r ih =>
    intro k N W h
    by_cases h5 : k = 5
    · subst h5; exact dec_five
    · rw [dec_more h5 (h c (List.mem_cons_self ..))]
      exact ih _ _ _ (fun x hx => h x (List.mem_cons_of_mem _ hx))

theorem enc_front (f : Nat) : ∀ m, m ≤ f → ∀ c ∈ (enc m).dropLast, 128 ≤ c := by
  induction f with
  | zero => intro m hm; rw [enc_small (by omega)]; simp
  | succ f ih =>
    intro m hm
    by_cases hs : m < 128
    · rw [enc_small hs]; simp
    · rw [enc_step hs]
      have hne : enc (m / 128) ≠ [] := by
        intro h; have := enc_len (m / 128); rw [h] at this; simp at this
      rw [List.dropLast_cons_of_ne_nil hne]
      intro c hc
      rcases List.mem_cons.1 hc with rfl | hc
      · omega
      · exact ih (m / 128) (by omega) c hc

/-- A number that lacks its last byte does not. -/
theorem getNum_cut (ys : List Int) (n : Int) : getNum ((ys ++ num n).take ((ys ++ num n).length - 1)) (ys.length : Int) = (0, 0, false) := by
  have hl := num_len n
  have hne : num n ≠ [] := by intro h; rw [h] at hl; simp at hl
  have e : (ys ++ num n).take ((ys ++ num n).length - 1) = ys ++ (num n).dropLast := by
    rw [← List.dropLast_eq_take, List.dropLast_append_of_ne_nil hne]
  rw [e]
  by_cases h0 : (num n).dropLast.length = 0
  · exact getNum_out (.inr (by simp [List.length_append] at *; omega))
  · refine getNum_none (by rw [List.length_append]; omega) ?_
    rw [List.drop_append, List.drop_eq_nil_of_le (Nat.le_refl _), Nat.sub_self, List.nil_append, List.drop_zero]
    exact dec_big _ _ _ _ (enc_front _ _ (Nat.le_refl _))

theorem u8s_sb (s : ByteArray) : u8s (sb s) = s.data.toList := by
  unfold u8s sb
  rw [List.map_map]
  have h : ((fun x : Int => UInt8.ofNat x.toNat) ∘ fun b : UInt8 => (b.toNat : Int)) = id := by
    funext b
    simp
  rw [h, List.map_id]
theorem txt_sb (s : ByteArray) : txt (sb s) = s := by
  unfold txt
  rw [u8s_sb]

theorem clamp_size {n : Nat} (h : n ≤ 1000000000) : clampN (n : Int) = (n : Int) := by
  unfold clampN
  rw [if_neg (by omega), if_neg (by omega)]

/-- A text comes back. -/
theorem getText_back (ys r : List Int) (s : ByteArray) (hs : s.size ≤ 1000000000) : getText (ys ++ (tx s ++ r)) (ys.length : Int) = (s, (ys.length : Int) + (tx s).length, true) := by
  have hg := getNum_back ys (sb s ++ r) (s.size : Int)
  rw [clamp_size hs] at hg
  have e : ys ++ (tx s ++ r) = ys ++ (num (s.size : Int) ++ (sb s ++ r)) := by unfold tx; rw [List.append_assoc]
  rw [e]
  have hl : (ys ++ (num (s.size : Int) ++ (sb s ++ r))).length = ys.length + ((num (s.size : Int)).length + (s.size + r.length)) := by
    simp only [List.length_append, sb_len]
  have hg2 : getNum (ys ++ (num (s.size : Int) ++ (sb s ++ r))) (ys.length : Int) = ((s.size : Int), ((ys.length + (num (s.size : Int)).length : Nat) : Int), true) := by
    rw [hg]; simp
  have h := getText_yes hg2 (by rw [hl]; omega)
  rw [h]
  have hd : ((ys ++ (num (s.size : Int) ++ (sb s ++ r))).drop (ys.length + (num (s.size : Int)).length)).take s.size = sb s := by
    rw [← List.append_assoc, List.drop_append, List.drop_eq_nil_of_le (by simp), List.nil_append, show ys.length + (num (s.size : Int)).length - (ys ++ num (s.size : Int)).length = 0 by simp, List.drop_zero, List.take_append_of_le_length (by rw [sb_len]; exact Nat.le_refl _), List.take_of_length_le (by rw [sb_len]; exact Nat.le_refl _)]
  rw [hd, txt_sb]
  have ht : (tx s).length = (num (s.size : Int)).length + s.size := by unfold tx; rw [List.length_append, sb_len]
  rw [ht]
  simp only [Prod.mk.injEq, and_true, true_and]
  omega

theorem rd_back (l : List ByteArray) : ∀ (ys r : List Int), (∀ s ∈ l, s.size ≤ 1000000000) → rd (ys ++ (txs l ++ r)) l.length (ys.length : Int) = some (l, (ys.length : Int) + (txs l).length) := by
  induction l with
  | nil => intro ys r _; simp [rd, txs]
  | cons s t ih =>
    intro ys r hs
    have e : ys ++ (txs (s :: t) ++ r) = ys ++ (tx s ++ (txs t ++ r)) := by simp only [txs, List.append_assoc]
    have e2 : ys ++ (tx s ++ (txs t ++ r)) = (ys ++ tx s) ++ (txs t ++ r) := by simp only [List.append_assoc]
    rw [e, List.length_cons, rd_yes (getText_back ys (txs t ++ r) s (hs s (List.mem_cons_self ..))), e2]
    have h := ih (ys ++ tx s) r (fun x hx => hs x (List.mem_cons_of_mem _ hx))
    have e3 : ((ys ++ tx s).length : Int) = (ys.length : Int) + ((tx s).length : Int) := by rw [List.length_append]; omega
    rw [e3] at h
    rw [h]
    simp only [Option.map_some, txs, List.length_append, Option.some.injEq, Prod.mk.injEq, true_and]
    omega

/-- Texts come back. -/
theorem getTexts_back (ys r : List Int) (l : List ByteArray) (hl : l.length ≤ 200) (hs : ∀ s ∈ l, s.size ≤ 1000000000) :
    getTexts ((ys ++ num (l.length : Int) ++ txs l) ++ r) (ys.length : Int) = (l, ((ys ++ num (l.length : Int) ++ txs l).length : Int), true) := by
  have hg := getNum_back ys (txs l ++ r) (l.length : Int)
  rw [clamp_size (by omega)] at hg
  have e : (ys ++ num (l.length : Int) ++ txs l) ++ r = ys ++ (num (l.length : Int) ++ (txs l ++ r)) := by simp only [List.append_assoc]
  have e2 : ys ++ (num (l.length : Int) ++ (txs l ++ r)) = (ys ++ num (l.length : Int)) ++ (txs l ++ r) := by simp only [List.append_assoc]
  rw [e]
  have hr := rd_back l (ys ++ num (l.length : Int)) r hs
  rw [← e2] at hr
  have e3 : ((ys ++ num (l.length : Int)).length : Int) = (ys.length : Int) + ((num (l.length : Int)).length : Int) := by rw [List.length_append]; omega
  rw [e3] at hr
  rw [getTexts_some hg hl hr]
  simp only [List.length_append, Prod.mk.injEq, true_and, and_true]
  omega

end Go.Proofs.YtljlcelbhlkmcabGreatDoor.Plain

/- Chapter 5: names and texts and back; plain facts alone. -/
namespace Go.Proofs.YtljlcelbhlkmcabGreatDoor.Ent
open Go.RowKit Go.Proofs.YtljlcelbhlkmcabGreatDoor.Mem Go.Proofs.YtljlcelbhlkmcabGreatDoor.Laws Go.Proofs.YtljlcelbhlkmcabGreatDoor.Bytes Go.Proofs.YtljlcelbhlkmcabGreatDoor.Sha Go.Proofs.YtljlcelbhlkmcabGreatDoor.Ver Go.Proofs.YtljlcelbhlkmcabGreatDoor.Mod
set_option linter.unusedVariables false
set_option linter.unusedSimpArgs false

theorem name_sb {n : Nd} (h : n.ok = true) : sb (name5 n) = sb n.path ++ [64] ++ vt n.a n.b n.c n.pre := by
  unfold name5
  have hv := (ok_parts h).2
  rw [if_pos h, sb_app, sb_app, sb_at, verText_ok hv, sb_txtv (vt_byt hv)]

/-- a name comes back -/
theorem pname_name {n : Nd} (h : n.ok = true) : pname (name5 n) = (n, true) := by
  obtain ⟨hp, hv⟩ := ok_parts h
  have hsp : splitT 64 (name5 n) = [n.path, Plain.txt (vt n.a n.b n.c n.pre)] := by
    unfold splitT split
    rw [name_sb h, split_part 64 _ _ (path_no hp), split_last 64 _ (vt_no hv)]
    simp [txt_sbv]
  unfold pname
  rw [hsp]
  simp only
  rw [parse_text hv]
  unfold pn
  have h' : fits4 n.path n.a n.b n.c n.pre = true := h
  simp only [h', and_self, if_true]
/-- what is read as a name has that name -/
theorem name_pname {s : ByteArray} {n : Nd} (h : pname s = (n, true)) : n.ok = true ∧ name5 n = s := by
  unfold pname at h
  split at h
  · rename_i x y hxy
    unfold pn at h
    split at h
    · rename_i hc
      obtain ⟨⟨a, b, c, p⟩, r, hpv⟩ : ∃ q r, parseV y = (q, r) := ⟨_, _, rfl⟩
      rw [hpv] at h hc
      simp only [Prod.mk.injEq, and_true] at h hc
      obtain ⟨rfl, hf⟩ := hc
      subst h
      have hok : (⟨x, a, b, c, p⟩ : Nd).ok = true := hf
      obtain ⟨hv, ht⟩ := parse_back hpv
      refine ⟨hok, ?_⟩
      unfold name5
      rw [if_pos hok]
      simp only
      rw [ht]
      have hj := join_split 64 (sb s) []
      have hT := splitT_sb 64 s
      rw [hxy] at hT
      have hT' : splitL 64 [] (sb s) = [sb x, sb y] := hT.symm
      rw [hT'] at hj
      simp only [join, List.nil_append] at hj
      rw [← txt_sbv (x ++ ⟨#[64]⟩ ++ y), sb_app, sb_app, sb_at, hj, txt_sbv]
    · simp at h
  · simp at h

theorem dec_canon : ∀ (l : List Int) (k : Nat) (N W n : Int) (k' : Nat), Plain.dec k N W l = some (n, k') → Byt l → ∃ m : Nat, n = N + (m : Int) * W ∧ k' = k + (Plain.enc m).length ∧ l = Plain.enc m ++ l.drop (Plain.enc m).length ∧ (0 < k → 0 < m) := by
  intro l
  induction l with
  | nil => intro k N W n k' h; simp [Plain.dec] at h
  | cons c r ih =>
    intro k N W n k' h hb
    have hc : 0 ≤ c ∧ c ≤ 255 := hb c (by simp)
    rw [Plain.dec] at h
    split at h
    · cases h
    · split at h
      · rename_i h5 h128
        obtain ⟨m, hn, hk, hl, hm⟩ := ih _ _ _ _ _ h (fun x hx => hb x (by simp [hx]))
        have hm0 := hm (by omega)
        obtain ⟨d, hd⟩ : ∃ d : Nat, c = (d : Int) := ⟨c.toNat, by omega⟩
        subst hd
        have e1 : (d % 128 + 128 * m) % 128 + 128 = d := by omega
        have e2 : (d % 128 + 128 * m) / 128 = m := by omega
        have henc : Plain.enc (d % 128 + 128 * m) = (d : Int) :: Plain.enc m := by rw [Plain.enc_step (by omega), e1, e2]
        refine ⟨d % 128 + 128 * m, ?_, ?_, ?_, fun _ => by omega⟩
        · rw [hn]
          have : (((d % 128 + 128 * m : Nat) : Int)) = (d : Int) % 128 + 128 * (m : Int) := by omega
          rw [this, Int.add_mul, Int.add_assoc, Int.mul_comm W 128, ← Int.mul_assoc, Int.mul_comm (m : Int) 128]
        · rw [hk, henc, List.length_cons]; omega
        · rw [henc]
          simp only [List.cons_append, List.length_cons, List.drop_succ_cons]
          rw [← hl]
      · split at h
        · cases h
        · rename_i h5 h128 hbad
          simp only [Option.some.injEq, Prod.mk.injEq] at h
          obtain ⟨rfl, rfl⟩ := h
          obtain ⟨d, hd⟩ : ∃ d : Nat, c = (d : Int) := ⟨c.toNat, by omega⟩
          subst hd
          have hd128 : d < 128 := by omega
          have e : (d : Int) % 128 = (d : Int) := by omega
          refine ⟨d, by rw [e], by rw [Plain.enc_small hd128]; rfl, by rw [Plain.enc_small hd128]; simp, fun hk => ?_⟩
          rw [not_or] at hbad
          rw [e] at hbad
          omega

theorem num_enc {n : Int} {m : Nat} (h : n = (m : Int)) (hm : n ≤ 1000000000) : Puts.num n = Plain.enc m := by
  rw [Plain.num_eq, h, Plain.clamp_size (by omega)]
  simp
theorem dec_bd : ∀ (l : List Int) (k : Nat) (N W n : Int) (k' : Nat), Plain.dec k N W l = some (n, k') → n ≤ 1000000000 := by
  intro l
  induction l with
  | nil => intro k N W n k' h; simp [Plain.dec] at h
  | cons c r ih =>
    intro k N W n k' h
    rw [Plain.dec] at h
    split at h
    · cases h
    · split at h
      · exact ih _ _ _ _ _ h
      · split at h
        · cases h
        · rename_i hbad
          simp only [Option.some.injEq, Prod.mk.injEq] at h
          rw [not_or] at hbad
          omega
/-- a number that is read stands there as it is put -/
theorem getNum_canon {xs : List Int} {a : Nat} {n p : Int} (hb : Byt xs) (h : Plain.getNum xs (a : Int) = (n, p, true)) : ∃ q : Nat, p = (q : Int) ∧ 0 ≤ n ∧ n ≤ 1000000000 ∧ a ≤ xs.length ∧ xs.drop a = Puts.num n ++ xs.drop q := by
  unfold Plain.getNum at h
  split at h
  · rename_i hc
    rw [show ((a : Int)).toNat = a from rfl] at h
    split at h
    · rename_i n' k hd
      simp only [Prod.mk.injEq, and_true] at h
      obtain ⟨rfl, rfl⟩ := h
      obtain ⟨m, hn, hk, hl, _⟩ := dec_canon _ _ _ _ _ _ hd (fun x hx => hb x (List.mem_of_mem_drop hx))
      have h9 := dec_bd _ _ _ _ _ _ hd
      have hn' : n' = (m : Int) := by omega
      refine ⟨a + k, by omega, by omega, h9, by omega, ?_⟩
      rw [num_enc hn' h9]
      have hk' : k = (Plain.enc m).length := by omega
      rw [← List.drop_drop, hk']
      exact hl
    · simp at h
  · simp at h
theorem getText_canon {xs : List Int} {a : Nat} {s : ByteArray} {p : Int} (hb : Byt xs) (h : Plain.getText xs (a : Int) = (s, p, true)) : ∃ q : Nat, p = (q : Int) ∧ s.size ≤ 1000000000 ∧ xs.drop a = Puts.tx s ++ xs.drop q := by
  unfold Plain.getText at h
  split at h
  · rename_i hc
    obtain ⟨n, q, ok, hg⟩ : ∃ n q ok, Plain.getNum xs (a : Int) = (n, q, ok) := ⟨_, _, _, rfl⟩
    rw [hg] at h hc
    simp only at h hc
    obtain ⟨rfl, hc2⟩ := hc
    simp only [Prod.mk.injEq, and_true] at h
    obtain ⟨rfl, rfl⟩ := h
    obtain ⟨q', rfl, hn0, hn9, _, hd⟩ := getNum_canon hb hg
    obtain ⟨m, rfl⟩ : ∃ m : Nat, n = (m : Int) := ⟨n.toNat, by omega⟩
    have hsz : (Plain.txt ((xs.drop ((q' : Int)).toNat).take ((m : Int)).toNat)).size = m := by
      rw [txt_sizev]
      simp
      omega
    have hsb : sb (Plain.txt ((xs.drop ((q' : Int)).toNat).take ((m : Int)).toNat)) = (xs.drop q').take m := by
      rw [sb_txtv (fun x hx => hb x (List.mem_of_mem_drop (List.mem_of_mem_take hx)))]
      rfl
    refine ⟨q' + m, by omega, by omega, ?_⟩
    unfold Puts.tx
    rw [hsz, hsb, hd, List.append_assoc, ← List.drop_drop, List.take_append_drop]
  · simp at h
theorem rd_canon {xs : List Int} (hb : Byt xs) : ∀ (n a : Nat) (l : List ByteArray) (p : Int), Plain.rd xs n (a : Int) = some (l, p) → ∃ q : Nat, p = (q : Int) ∧ l.length = n ∧ xs.drop a = Puts.txs l ++ xs.drop q := by
  intro n
  induction n with
  | zero =>
    intro a l p h
    simp [Plain.rd] at h
    obtain ⟨rfl, rfl⟩ := h
    exact ⟨a, rfl, rfl, rfl⟩
  | succ n ih =>
    intro a l p h
    rw [Plain.rd] at h
    split at h
    · rename_i hok
      obtain ⟨s, q, ok, hg⟩ : ∃ s q ok, Plain.getText xs (a : Int) = (s, q, ok) := ⟨_, _, _, rfl⟩
      rw [hg] at h hok
      simp only at h hok
      subst hok
      obtain ⟨q', rfl, _, hd⟩ := getText_canon hb hg
      rw [Option.map_eq_some_iff] at h
      obtain ⟨⟨l2, q2⟩, h1, h2⟩ := h
      simp only [Prod.mk.injEq] at h2
      obtain ⟨rfl, rfl⟩ := h2
      obtain ⟨q3, hq3, hl3, hd3⟩ := ih _ _ _ h1
      refine ⟨q3, hq3, by simp [hl3], ?_⟩
      rw [hd, hd3]
      simp [Puts.txs]
    · cases h
theorem getTexts_canon {xs : List Int} {a : Nat} {l : List ByteArray} {p : Int} (hb : Byt xs) (h : Plain.getTexts xs (a : Int) = (l, p, true)) : ∃ q : Nat, p = (q : Int) ∧ xs.drop a = Puts.num (l.length : Int) ++ Puts.txs l ++ xs.drop q := by
  unfold Plain.getTexts at h
  split at h
  · rename_i hc
    obtain ⟨n, q, ok, hg⟩ : ∃ n q ok, Plain.getNum xs (a : Int) = (n, q, ok) := ⟨_, _, _, rfl⟩
    rw [hg] at h hc
    simp only at h hc
    obtain ⟨rfl, hc2⟩ := hc
    obtain ⟨q', rfl, hn0, hn9, _, hd⟩ := getNum_canon hb hg
    obtain ⟨m, rfl⟩ : ∃ m : Nat, n = (m : Int) := ⟨n.toNat, by omega⟩
    split at h
    · rename_i l' q2 hr
      simp only [Prod.mk.injEq, and_true] at h
      obtain ⟨rfl, rfl⟩ := h
      obtain ⟨q3, hq3, hl3, hd3⟩ := rd_canon hb _ _ _ _ hr
      refine ⟨q3, hq3, ?_⟩
      have : l'.length = m := by rw [hl3]; rfl
      rw [hd, hd3, this, List.append_assoc]
    · simp at h
  · simp at h

theorem needsOf_names : ∀ l : List Nd, (∀ x ∈ l, x.ok = true) → needsOf (l.map name5) = some l := by
  intro l
  induction l with
  | nil => intro _; rfl
  | cons x r ih =>
    intro h
    simp only [List.map_cons, needsOf]
    rw [pname_name (h x (by simp)), ih (fun y hy => h y (by simp [hy]))]
    rfl
theorem names_needsOf : ∀ (ts : List ByteArray) (l : List Nd), needsOf ts = some l → l.map name5 = ts := by
  intro ts
  induction ts with
  | nil => intro l h; simp [needsOf] at h; subst h; rfl
  | cons t r ih =>
    intro l h
    simp only [needsOf] at h
    split at h
    · rename_i ht
      rw [Option.map_eq_some_iff] at h
      obtain ⟨l2, h1, rfl⟩ := h
      obtain ⟨x, g, hx⟩ : ∃ x g, pname t = (x, g) := ⟨_, _, rfl⟩
      rw [hx] at ht ⊢
      simp only at ht ⊢
      subst ht
      rw [List.map_cons, ih _ h1, (name_pname hx).2]
    · cases h
theorem rise_ok : ∀ l : List Nd, rise l = true → ∀ x ∈ l, x.ok = true := by
  intro l
  induction l with
  | nil => intro _ x hx; cases hx
  | cons n r ih =>
    intro h x hx
    cases r with
    | nil => simp at hx; subst hx; exact h
    | cons m r =>
      have h' : (n.ok && ltT n.path m.path && rise (m :: r)) = true := h
      simp only [Bool.and_eq_true] at h'
      rcases List.mem_cons.1 hx with rfl | hx
      · exact h'.1.1
      · exact ih h'.2 x hx
theorem entry_parts {n : Nd} {l : List Nd} (h : entry5 n l = true) : n.ok = true ∧ l.length ≤ 8 ∧ rise l = true ∧ self5 n l = false := by
  unfold entry5 at h
  simp only [Bool.and_eq_true, decide_eq_true_eq] at h
  exact ⟨h.1.1.2, h.1.2, h.2, by simpa using h.1.1.1⟩

/-- what is read of a text has that text -/
theorem put_get5 {s : ByteArray} {n : Nd} {l : List Nd} (h : get5 s = (n, l, true)) : entry5 n l = true ∧ put5 n l = s := by
  unfold get5 at h
  split at h
  · rename_i hc
    obtain ⟨nm, p, ok, ht⟩ : ∃ nm p ok, Plain.getText (sb s) 0 = (nm, p, ok) := ⟨_, _, _, rfl⟩
    rw [ht] at h hc
    simp only at h hc
    obtain ⟨ts, q, is, hts⟩ : ∃ ts q is, Plain.getTexts (sb s) p = (ts, q, is) := ⟨_, _, _, rfl⟩
    rw [hts] at h hc
    simp only at h hc
    obtain ⟨x, g, hx⟩ : ∃ x g, pname nm = (x, g) := ⟨_, _, rfl⟩
    rw [hx] at h hc
    simp only at h hc
    obtain ⟨rfl, rfl, rfl, hq⟩ := hc
    unfold get5t at h
    split at h
    · rename_i l' hn
      unfold get5e at h
      split at h
      · rename_i he
        simp only [Prod.mk.injEq, and_true] at h
        obtain ⟨rfl, rfl⟩ := h
        refine ⟨he, ?_⟩
        obtain ⟨q1, rfl, _, hd1⟩ := getText_canon (a := 0) (sb_byt s) ht
        obtain ⟨q2, hq2, hd2⟩ := getTexts_canon (sb_byt s) hts
        unfold put5
        rw [if_pos he, names_needsOf _ _ hn, (name_pname hx).2, needsOf_len _ _ hn]
        have h3 : (sb s).drop q2 = [] := List.drop_eq_nil_of_le (by rw [sb_len]; omega)
        rw [h3, List.append_nil] at hd2
        rw [List.drop_zero, hd2, ← List.append_assoc] at hd1
        rw [← hd1, txt_sbv]
      · simp [no5] at h
    · simp [no5] at h
  · simp [no5] at h
/-- an entry comes back of its text -/
theorem get_put5 {n : Nd} {l : List Nd} (h : entry5 n l = true) (hz : ∀ x, x = n ∨ x ∈ l → (name5 x).size ≤ 1000000000) : get5 (put5 n l) = (n, l, true) := by
  obtain ⟨hn, h8, hr, _⟩ := entry_parts h
  have hb : Byt (Puts.tx (name5 n) ++ Puts.num (l.length : Int) ++ Puts.txs (l.map name5)) := ((Puts.tx_byt _).app (Puts.num_byt _)).app (txs_byt5 _)
  have hs : sb (put5 n l) = Puts.tx (name5 n) ++ Puts.num (l.length : Int) ++ Puts.txs (l.map name5) := by unfold put5; rw [if_pos h, sb_txtv hb]
  have g1 := Plain.getText_back [] (Puts.num (l.length : Int) ++ Puts.txs (l.map name5)) (name5 n) (hz n (.inl rfl))
  rw [List.nil_append, ← List.append_assoc, ← hs] at g1
  simp only [List.length_nil, Int.natCast_zero, Int.zero_add] at g1
  have g2 := Plain.getTexts_back (Puts.tx (name5 n)) [] (l.map name5) (by simp; omega) (fun t ht => by
    obtain ⟨x, hx, rfl⟩ := List.mem_map.1 ht
    exact hz x (.inr hx))
  rw [List.append_nil, List.length_map, ← hs] at g2
  unfold get5
  rw [g1]
  simp only
  rw [g2]
  simp only
  rw [pname_name hn]
  simp only
  rw [if_pos ⟨trivial, trivial, trivial, by rw [sb_len]⟩]
  unfold get5t
  rw [needsOf_names l (rise_ok l hr)]
  simp only [get5e]
  rw [if_pos h]

end Go.Proofs.YtljlcelbhlkmcabGreatDoor.Ent

/- Chapter 5: sizes of names and texts; the cells of an entry and of a need. -/
namespace Go.Proofs.YtljlcelbhlkmcabGreatDoor.Ent
open Go.RowKit Go.Proofs.YtljlcelbhlkmcabGreatDoor.Mem Go.Proofs.YtljlcelbhlkmcabGreatDoor.Laws Go.Proofs.YtljlcelbhlkmcabGreatDoor.Bytes Go.Proofs.YtljlcelbhlkmcabGreatDoor.Sha Go.Proofs.YtljlcelbhlkmcabGreatDoor.Ver Go.Proofs.YtljlcelbhlkmcabGreatDoor.Mod Go.Proofs.YtljlcelbhlkmcabGreatDoor.Draw
set_option linter.unusedVariables false
set_option linter.unusedSimpArgs false

theorem tot_name_bn (l : List Nd) (h : ∀ x ∈ l, Bn x) : Puts.tot (l.map name5) ≤ l.length * 200 := by
  induction l with
  | nil => simp [Puts.tot]
  | cons x r ih =>
    have h1 := h x (by simp)
    have h2 := name5_size (n := x)
    have h3 := ih (fun y hy => h y (by simp [hy]))
    unfold Bn at h1
    simp only [List.map_cons, Puts.tot, List.length_cons]
    omega
theorem put5_size {n : Nd} {l : List Nd} (hn : Bn n) (hl : ∀ x ∈ l, Bn x) (h : l.length ≤ 8) : (put5 n l).size ≤ 10000 := by
  unfold put5
  split
  · rw [txt_sizev, List.length_append, List.length_append]
    have h1 := Puts.tx_len (name5 n)
    have h2 := (Puts.num_len (l.length : Int)).2
    have h3 := Puts.txs_len (l.map name5)
    have h4 := tot_name_bn l hl
    have h5 := name5_size (n := n)
    unfold Bn at hn
    rw [List.length_map] at h3
    omega
  · exact Nat.zero_le _
theorem Bn.big {n : Nd} (h : Bn n) : n.path.size ≤ 1048576 ∧ n.pre.size ≤ 1048576 := by unfold Bn at h; omega

theorem ec_cells {w : World} {g : Nat} {n : Nd} {v : Value} {t : TypeId} {fr : Nat × Nat} (h : w.heap[g]? = some (.cells (ec n v) t fr)) : w.cell? ⟨g, 0, none⟩ = some (.string n.path) ∧ w.cell? ⟨g, 1, none⟩ = some (.int .i64 n.a) ∧ w.cell? ⟨g, 2, none⟩ = some (.int .i64 n.b) ∧ w.cell? ⟨g, 3, none⟩ = some (.int .i64 n.c) ∧ w.cell? ⟨g, 4, none⟩ = some (.string n.pre) ∧ w.cell? ⟨g, 5, none⟩ = some v :=
  ⟨row_cells h 0, row_cells h 1, row_cells h 2, row_cells h 3, row_cells h 4, row_cells h 5⟩
theorem nc_cells {w : World} {g : Nat} {n : Nd} {t : TypeId} {fr : Nat × Nat} (h : w.heap[g]? = some (.cells #[.string n.path, .int .i64 n.a, .int .i64 n.b, .int .i64 n.c, .string n.pre] t fr)) : w.cell? ⟨g, 0, none⟩ = some (.string n.path) ∧ w.cell? ⟨g, 1, none⟩ = some (.int .i64 n.a) ∧ w.cell? ⟨g, 2, none⟩ = some (.int .i64 n.b) ∧ w.cell? ⟨g, 3, none⟩ = some (.int .i64 n.c) ∧ w.cell? ⟨g, 4, none⟩ = some (.string n.pre) :=
  ⟨row_cells h 0, row_cells h 1, row_cells h 2, row_cells h 3, row_cells h 4⟩

end Go.Proofs.YtljlcelbhlkmcabGreatDoor.Ent

/- Chapter 5: the law FnEntries, over contracts of the landed functions. -/
namespace Go.Proofs.YtljlcelbhlkmcabGreatDoor.Ent
open Go.RowKit Go.Proofs.YtljlcelbhlkmcabGreatDoor.Mem Go.Proofs.YtljlcelbhlkmcabGreatDoor.Laws Go.Proofs.YtljlcelbhlkmcabGreatDoor.Bytes Go.Proofs.YtljlcelbhlkmcabGreatDoor.Sha Go.Proofs.YtljlcelbhlkmcabGreatDoor.Ver Go.Proofs.YtljlcelbhlkmcabGreatDoor.Mod Go.Proofs.YtljlcelbhlkmcabGreatDoor.Draw
set_option linter.unusedVariables false
set_option linter.unusedSimpArgs false

set_option maxRecDepth 1000000 in
set_option maxHeartbeats 8000000 in
theorem entries (w : World) (v0 : Value) (xs0 : List Int) (h0 : Sl w v0 (bs xs0)) (y0 : Byt xs0) (m0 : xs0.length ≤ maxLen)
    (iPut : ∀ W, Below w.heap.size w W → ∀ (n : Nd) (v : Value) (l : List Nd), Sd W v l → l.length ≤ 1048576 → n.path.size ≤ 1048576 ∧ n.pre.size ≤ 1048576 → (∀ n ∈ l, n.path.size ≤ 1048576 ∧ n.pre.size ≤ 1048576) → Calls Tryz.prog 7 #[.agg #[.string n.path, .int .i64 n.a, .int .i64 n.b, .int .i64 n.c, .string n.pre, v]] W fun e w' => e = .returned (.string (put5 n l)) ∧ Below W.heap.size W w')
    (iOk : ∀ W, Below w.heap.size w W → ∀ (n : Nd) (v : Value) (l : List Nd), Sd W v l → l.length ≤ 1048576 → n.path.size ≤ 1048576 ∧ n.pre.size ≤ 1048576 → (∀ n ∈ l, n.path.size ≤ 1048576 ∧ n.pre.size ≤ 1048576) → Calls Tryz.prog 9 #[.agg #[.string n.path, .int .i64 n.a, .int .i64 n.b, .int .i64 n.c, .string n.pre, v]] W fun e w' => e = .returned (.bool (entry5 n l)) ∧ Below W.heap.size W w')
    (iGet : ∀ W, Below w.heap.size w W → ∀ s : ByteArray, s.size ≤ 1048576 → Calls Tryz.prog 10 #[.string s] W fun e w' => ∃ v', e = .returned (.tuple #[.agg #[.string (get5 s).1.path, .int .i64 (get5 s).1.a, .int .i64 (get5 s).1.b, .int .i64 (get5 s).1.c, .string (get5 s).1.pre, v'], .bool (get5 s).2.2]) ∧ Sd w' v' (get5 s).2.1 ∧ Below W.heap.size W w')
    (iName : ∀ W, Below w.heap.size w W → ∀ n : Nd, n.path.size ≤ 1048576 ∧ n.pre.size ≤ 1048576 → Calls Tryz.prog 12 #[.string n.path, .agg #[.int .i64 n.a, .int .i64 n.b, .int .i64 n.c, .string n.pre]] W fun e w' => e = .returned (.string (name5 n)) ∧ Below W.heap.size W w')
    (iPn : ∀ W, Below w.heap.size w W → ∀ s : ByteArray, s.size ≤ 1048576 → Calls Tryz.prog 11 #[.string s] W fun e w' => e = .returned (.tuple #[.agg #[.string (pname s).1.path, .int .i64 (pname s).1.a, .int .i64 (pname s).1.b, .int .i64 (pname s).1.c, .string (pname s).1.pre], .bool (pname s).2]) ∧ Below W.heap.size W w')
    (iN : ∀ W, Below w.heap.size w W → ∀ n : Nd, n.path.size ≤ 1048576 ∧ n.pre.size ≤ 1048576 → Calls Tryz.prog 14 #[.agg #[.string n.path, .int .i64 n.a, .int .i64 n.b, .int .i64 n.c, .string n.pre]] W fun e w' => e = .returned (.bool n.ok) ∧ Below W.heap.size W w')
    (iNs : ∀ W, Below w.heap.size w W → ∀ (v : Value) (l : List Nd), Sd W v l → l.length ≤ 1048576 → (∀ n ∈ l, n.path.size ≤ 1048576 ∧ n.pre.size ≤ 1048576) → Calls Tryz.prog 15 #[v] W fun e w' => e = .returned (.bool (needs5 l)) ∧ Below W.heap.size W w') :
    Calls Tryz.prog 3 #[v0] w fun e w' => e = .returned (.bool true) ∧ Below w.heap.size w w' := by
  unfold maxLen at m0
  by_cases hbig : 1048576 < xs0.length
  · obtain ⟨ao, cap, rfl, _, _, _⟩ := h0
    rw [bs_len]
    go_enter Tryz.func3, Tryz.ntmps3
    go_wp2_with (go_at_call 5; refine (big_yes _ _ _ _ hbig).mono ?_; rintro e w1 ⟨rfl, rfl⟩)
    go_ret
    exact ⟨rfl, Below.refl _ _⟩
  have q1 := put_drawn w v0 xs0 h0 y0 (by omega)
  obtain ⟨ao, cap, rfl, _, _, _⟩ := h0
  rw [bs_len] at q1 ⊢
  go_enter Tryz.func3, Tryz.ntmps3
  go_wp2_with fail
  refine (big_no _ _ _ _ hbig).mono ?_
  rintro e w0 ⟨rfl, rfl⟩
  go_wp2_with fail
  refine q1.mono ?_
  rintro e W1 ⟨n, v, l, rfl, hbn, hdl, hl4, o1, b1⟩
  obtain ⟨ao1, cp1, rfl⟩ := on_slice5 o1
  have B2 : Below w.heap.size w (W1.alloc (.cells #[.string n.path, .int .i64 n.a, .int .i64 n.b, .int .i64 n.c, .string n.pre, .slice ao1 l.length cp1] 28)) := b1.alloc b1.size _
  have HR2 : Hid ((W1.alloc (.cells #[.string n.path, .int .i64 n.a, .int .i64 n.b, .int .i64 n.c, .string n.pre, .slice ao1 l.length cp1] 28)).heap[W1.heap.size]? = some (.cells (ec n (.slice ao1 l.length cp1)) 28 (0, 0))) := heap_alloc_new W1 _
  have HS2 : Hid (Sd (W1.alloc (.cells #[.string n.path, .int .i64 n.a, .int .i64 n.b, .int .i64 n.c, .string n.pre, .slice ao1 l.length cp1] 28)) (.slice ao1 l.length cp1) l) := o1.sd.later ((Below.refl _ _).alloc (Nat.le_refl _) _)
  have HZ : Hid (∀ x ∈ l, x.path.size ≤ 1048576 ∧ x.pre.size ≤ 1048576) := fun x hx => (hdl x hx).bn.big
  have HBL : Hid (∀ x ∈ l, Bn x) := fun x hx => (hdl x hx).bn
  have HBN : Hid (Bn n) := hbn
  have hg1 : w.heap.size ≤ W1.heap.size := b1.size
  have q2 := iPut _ B2 n (.slice ao1 l.length cp1) l HS2.out (by omega) hbn.big HZ.out
  clear q1 iPut hdl hbn o1 b1
  go_wp2_with fail
  refine q2.mono ?_
  rintro e W3 ⟨rfl, b3⟩
  have R3 := rowKeep HR2.out b3
  have HS3 : Hid (Sd W3 (.slice ao1 l.length cp1) l) := HS2.out.later b3
  have B3 : Below w.heap.size w W3 := B2.trans (b3.mono B2.size)
  clear q2 HR2 HS2 B2 b3
  have q3 := entryok_spec W3 n (.slice ao1 l.length cp1) l HS3.out (by omega) (by have := HBN.out.big; omega) (by have := HBN.out.big; omega) (fun x hx => by have := HZ.out x hx; omega)
  go_wp2_with (refine wpList_load_row rfl 28 _ rfl W1.heap.size rfl 28 (ec n (.slice ao1 l.length cp1)) (0, 0) _ R3 Tryz.underlying28 rfl (sizeE _ _) ?_)
  refine q3.mono ?_
  rintro e W4 ⟨rfl, b4⟩
  have R4 := rowKeep R3 b4
  have HS4 : Hid (Sd W4 (.slice ao1 l.length cp1) l) := HS3.out.later b4
  have B4 : Below w.heap.size w W4 := B3.trans (b4.mono B3.size)
  clear q3 R3 HS3 B3 b4
  by_cases hE : entry5 n l = true
  case neg =>
    have hE' : entry5 n l = false := by simpa using hE
    have hput : put5 n l = ⟨#[]⟩ := by unfold put5; rw [if_neg hE]
    have q5 := iOk _ B4 n (.slice ao1 l.length cp1) l HS4.out (by omega) HBN.out.big HZ.out
    rw [hE'] at q5
    rw [hE', hput]
    clear hE hE' hput iOk iGet iName iPn iN iNs
    obtain ⟨k0, k1, k2, k3, k4, k5⟩ := ec_cells R4
    go_wp2_with fail
    refine q5.mono ?_
    rintro e W5 ⟨rfl, b5⟩
    have B5 : Below w.heap.size w W5 := B4.trans (b5.mono B4.size)
    clear q5 R4 b5 k0 k1 k2 k3 k4 k5
    go_wp2
    go_ret
    exact ⟨rfl, B5⟩
  case pos =>
    have HE : Hid (entry5 n l = true) := hE
    obtain ⟨hok, hl8, hri, _⟩ := entry_parts hE
    have hnd : needs5 l = true := by unfold needs5; rw [hri]; simp; omega
    have hgp := get_put5 hE (fun x hx => by
      have h1 : Bn x := by rcases hx with rfl | hx; exact HBN.out; exact HBL.out x hx
      have h2 := name5_size (n := x)
      unfold Bn at h1
      omega)
    have hpz := put5_size HBN.out HBL.out (by omega)
    have q5 := iGet _ B4 (put5 n l) (by omega)
    rw [hgp] at q5
    have hnz : (name5 n).size ≤ 1048576 := by have h2 := name5_size (n := n); have h1 := HBN.out; unfold Bn at h1; omega
    have jName : ∀ W, Below w.heap.size w W → _ := fun W h => iName W h n HBN.out.big
    have jPn : ∀ W, Below w.heap.size w W → _ := fun W h => iPn W h (name5 n) hnz
    rw [pname_name hok] at jPn
    have jN : ∀ W, Below w.heap.size w W → _ := fun W h => iN W h n HBN.out.big
    rw [hok] at jN
    have jNs : ∀ W, Below w.heap.size w W → ∀ v, Sd W v l → _ := fun W h v hs => iNs W h v l hs (by omega) HZ.out
    rw [hnd] at jNs
    have jS : ∀ W v1 v2, Sd W v1 l → Sd W v2 l → _ := fun W v1 v2 h1 h2 => same_entry W n v1 v2 l h1 h2 (by omega)
    rw [hE]
    obtain ⟨s5, hs5⟩ : ∃ s5, s5 = put5 n l := ⟨_, rfl⟩
    rw [← hs5] at q5 ⊢
    obtain ⟨m5, hm5⟩ : ∃ m5, m5 = name5 n := ⟨_, rfl⟩
    rw [← hm5] at jPn jName
    clear hE hok hri hnd hgp hpz iGet iName iPn iN iNs iOk hs5 hm5 hnz
    go_wp2_with fail
    refine q5.mono ?_
    rintro e W5 ⟨v5, rfl, s5d, b5⟩
    have HS5 : Hid (Sd W5 v5 l) := s5d
    obtain ⟨_, ao5, cp5, rfl, _⟩ := s5d
    have R5 := rowKeep R4 b5
    have HT5 : Hid (Sd W5 (.slice ao1 l.length cp1) l) := HS4.out.later b5
    have B5 : Below w.heap.size w W5 := B4.trans (b5.mono B4.size)
    have hz5 : W1.heap.size < W5.heap.size := (Array.getElem?_eq_some_iff.1 R5).1
    have hba : Below W5.heap.size W5 (W5.alloc (.cells #[.string n.path, .int .i64 n.a, .int .i64 n.b, .int .i64 n.c, .string n.pre, .slice ao5 l.length cp5] 28)) := (Below.refl _ _).alloc (Nat.le_refl _) _
    have B6 : Below w.heap.size w (W5.alloc (.cells #[.string n.path, .int .i64 n.a, .int .i64 n.b, .int .i64 n.c, .string n.pre, .slice ao5 l.length cp5] 28)) := B5.trans (hba.mono B5.size)
    have HR6 : Hid ((W5.alloc (.cells #[.string n.path, .int .i64 n.a, .int .i64 n.b, .int .i64 n.c, .string n.pre, .slice ao5 l.length cp5] 28)).heap[W1.heap.size]? = some (.cells (ec n (.slice ao1 l.length cp1)) 28 (0, 0))) := rowKeep R5 hba
    have HX6 : Hid ((W5.alloc (.cells #[.string n.path, .int .i64 n.a, .int .i64 n.b, .int .i64 n.c, .string n.pre, .slice ao5 l.length cp5] 28)).heap[W5.heap.size]? = some (.cells (ec n (.slice ao5 l.length cp5)) 28 (0, 0))) := heap_alloc_new W5 _
    have HS6 : Hid (Sd (W5.alloc (.cells #[.string n.path, .int .i64 n.a, .int .i64 n.b, .int .i64 n.c, .string n.pre, .slice ao5 l.length cp5] 28)) (.slice ao5 l.length cp5) l) := HS5.out.later hba
    have HT6 : Hid (Sd (W5.alloc (.cells #[.string n.path, .int .i64 n.a, .int .i64 n.b, .int .i64 n.c, .string n.pre, .slice ao5 l.length cp5] 28)) (.slice ao1 l.length cp1) l) := HT5.out.later hba
    have q6 := jName _ B6
    obtain ⟨k0, k1, k2, k3, k4, k5⟩ := ec_cells R5
    clear R5 HS5 HT5 B5 hba q5 R4 HS4 B4 b5 jName
    go_wp2_with fail
    refine q6.mono ?_
    rintro e W7 ⟨rfl, b7⟩
    have R7 := rowKeep HR6.out b7
    have X7 := rowKeep HX6.out b7
    have HS7 : Hid (Sd W7 (.slice ao5 l.length cp5) l) := HS6.out.later b7
    have HT7 : Hid (Sd W7 (.slice ao1 l.length cp1) l) := HT6.out.later b7
    have B7 : Below w.heap.size w W7 := B6.trans (b7.mono B6.size)
    clear q6 k0 k1 k2 k3 k4 k5 HR6 HX6 HS6 HT6 B6 b7
    go_wp2_with fail
    refine (jPn _ B7).mono ?_
    rintro e W8 ⟨rfl, b8⟩
    have R8 := rowKeep R7 b8
    have X8 := rowKeep X7 b8
    have HS8 : Hid (Sd W8 (.slice ao5 l.length cp5) l) := HS7.out.later b8
    have HT8 : Hid (Sd W8 (.slice ao1 l.length cp1) l) := HT7.out.later b8
    have B8 : Below w.heap.size w W8 := B7.trans (b8.mono B7.size)
    have hz8 : W5.heap.size < W8.heap.size := (Array.getElem?_eq_some_iff.1 X8).1
    have hz9 : W1.heap.size < W8.heap.size := (Array.getElem?_eq_some_iff.1 R8).1
    have hba : Below W8.heap.size W8 (W8.alloc (.cells #[.string n.path, .int .i64 n.a, .int .i64 n.b, .int .i64 n.c, .string n.pre] 35)) := (Below.refl _ _).alloc (Nat.le_refl _) _
    have HB9 : Hid (Below w.heap.size w (W8.alloc (.cells #[.string n.path, .int .i64 n.a, .int .i64 n.b, .int .i64 n.c, .string n.pre] 35))) := B8.trans (hba.mono B8.size)
    have HR9 : Hid ((W8.alloc (.cells #[.string n.path, .int .i64 n.a, .int .i64 n.b, .int .i64 n.c, .string n.pre] 35)).heap[W1.heap.size]? = some (.cells (ec n (.slice ao1 l.length cp1)) 28 (0, 0))) := rowKeep R8 hba
    have HN9 : Hid ((W8.alloc (.cells #[.string n.path, .int .i64 n.a, .int .i64 n.b, .int .i64 n.c, .string n.pre] 35)).heap[W8.heap.size]? = some (.cells #[.string n.path, .int .i64 n.a, .int .i64 n.b, .int .i64 n.c, .string n.pre] 35 (0, 0))) := heap_alloc_new W8 _
    have HT9 : Hid (Sd (W8.alloc (.cells #[.string n.path, .int .i64 n.a, .int .i64 n.b, .int .i64 n.c, .string n.pre] 35)) (.slice ao1 l.length cp1) l) := HT8.out.later hba
    have q9 := jS (W8.alloc (.cells #[.string n.path, .int .i64 n.a, .int .i64 n.b, .int .i64 n.c, .string n.pre] 35)) (.slice ao5 l.length cp5) (.slice ao1 l.length cp1) (HS8.out.later hba) HT9.out
    obtain ⟨k0, k1, k2, k3, k4, k5⟩ := ec_cells R8
    obtain ⟨x0, x1, x2, x3, x4, x5⟩ := ec_cells X8
    clear R7 X7 HS7 HT7 B7 b8 jPn R8 X8 HS8 HT8 B8 hba jS
    go_wp2_with fail
    refine q9.mono ?_
    rintro e W9 ⟨rfl, b9⟩
    have R9 := rowKeep HR9.out b9
    have N9 := rowKeep HN9.out b9
    have HT : Hid (Sd W9 (.slice ao1 l.length cp1) l) := HT9.out.later b9
    have B9 : Below w.heap.size w W9 := HB9.out.trans (b9.mono HB9.out.size)
    clear q9 k0 k1 k2 k3 k4 k5 x0 x1 x2 x3 x4 x5 HR9 HN9 HT9 HB9 b9
    obtain ⟨k0, k1, k2, k3, k4, k5⟩ := ec_cells R9
    obtain ⟨x0, x1, x2, x3, x4⟩ := nc_cells N9
    have hgd := Ver.grdV
    have hqe := fun W => Ver.eqlV W n.a n.b n.c n.pre n.a n.b n.c n.pre
    rw [(Ver.sameV_iff n.a n.b n.c n.pre n.a n.b n.c n.pre).2 ⟨rfl, rfl, rfl, rfl⟩] at hqe
    have n1 : (n.path.toList == n.path.toList) = true := by simp
    go_wp2_with fail
    refine (jN _ B9).mono ?_
    rintro e WA ⟨rfl, bA⟩
    have RA := rowKeep R9 bA
    have HTA : Hid (Sd WA (.slice ao1 l.length cp1) l) := HT.out.later bA
    have BA : Below w.heap.size w WA := B9.trans (bA.mono B9.size)
    clear jN k0 k1 k2 k3 k4 k5 x0 x1 x2 x3 x4 R9 N9 HT B9 bA hgd hqe n1
    have k5 : WA.cell? ⟨W1.heap.size, 5, none⟩ = some (.slice ao1 l.length cp1) := row_cells RA 5
    go_wp2_with fail
    refine (jNs _ BA _ HTA.out).mono ?_
    rintro e WB ⟨rfl, bB⟩
    have BB : Below w.heap.size w WB := BA.trans (bB.mono BA.size)
    clear jNs k5 RA HTA BA bB
    go_wp2
    go_ret
    exact ⟨rfl, BB⟩

end Go.Proofs.YtljlcelbhlkmcabGreatDoor.Ent

/- Chapter 5, draws: a text that may be a name. -/
namespace Go.Proofs.YtljlcelbhlkmcabGreatDoor.Ent
open Go.RowKit Go.Proofs.YtljlcelbhlkmcabGreatDoor.Mem Go.Proofs.YtljlcelbhlkmcabGreatDoor.Laws Go.Proofs.YtljlcelbhlkmcabGreatDoor.Bytes Go.Proofs.YtljlcelbhlkmcabGreatDoor.Sha Go.Proofs.YtljlcelbhlkmcabGreatDoor.Ver Go.Proofs.YtljlcelbhlkmcabGreatDoor.Mod Go.Proofs.YtljlcelbhlkmcabGreatDoor.Draw
set_option linter.unusedVariables false
set_option linter.unusedSimpArgs false

/-- texts that are names, and that are none -/
def nameL : List ByteArray := [⟨#[]⟩, ⟨#[64]⟩, ⟨#[97]⟩, ⟨#[97, 64, 118, 49, 46, 48, 46, 48, 64]⟩, ⟨#[97, 64, 118, 50, 46, 48, 46, 48]⟩, ⟨#[97, 47, 118, 50, 64, 118, 50, 46, 48, 46, 48]⟩, ⟨#[97, 64, 49, 46, 48, 46, 48]⟩, ⟨#[64, 118, 49, 46, 48, 46, 48]⟩, ⟨#[65, 64, 118, 49, 46, 48, 46, 48]⟩]
theorem nameL_size : ∀ s ∈ nameL, s.size ≤ 200 := by decide

set_option maxRecDepth 1000000 in
set_option maxHeartbeats 4000000 in
theorem pname_drawn (w : World) (vb : Value) (xs : List Int) (hs : Sl w vb (bs xs)) (hby : Byt xs) (hx : xs.length ≤ 140737488355328) :
    Calls Tryz.prog 18 #[vb] w fun e w' => ∃ t : ByteArray, e = .returned (.string t) ∧ t.size ≤ 200 ∧ Below w.heap.size w w' := by
  go_enter Tryz.func18, Tryz.ntmps18
  go_wp2_with fail
  refine (new_any w vb xs hs hby hx).mono ?_
  rintro e w1 ⟨rfl, d1⟩
  have gl1 := d1.cur.lt
  go_wp2_with fail
  refine (need_any w w1 w.heap.size vb xs hs hby hx d1.below (Nat.le_refl _) d1.cur).mono ?_
  rintro e w2 ⟨n, rfl, hdn, d2⟩
  have hz2 : w1.heap.size ≤ w2.heap.size := d2.apart.size
  obtain ⟨W2, HW2, HR2, HD2⟩ : ∃ W2, Hid (w2.alloc (.cells #[.string n.path, .int .i64 n.a, .int .i64 n.b, .int .i64 n.c, .string n.pre] 35) = W2) ∧ Hid (W2.heap[w2.heap.size]? = some (.cells #[.string n.path, .int .i64 n.a, .int .i64 n.b, .int .i64 n.c, .string n.pre] 35 (0, 0))) ∧ Hid (Drawn w w1 w.heap.size vb xs W2) :=
    ⟨_, rfl, heap_alloc_new w2 _, d2.on (Nat.le_refl _) gl1 ((Below.refl _ _).alloc hz2 _)⟩
  have q3 := once_any w W2 w.heap.size vb xs 3 (by omega) (by omega) hs hby hx HD2.out.below (Nat.le_refl _) HD2.out.cur
  rw [← HW2.out] at q3
  clear d1 d2
  go_wp2_with fail
  refine q3.mono ?_
  rw [HW2.out]
  rintro e w3 ⟨on, rfl, d3⟩
  clear q3
  have HR3 : Hid (w3.heap[w2.heap.size]? = some (.cells #[.string n.path, .int .i64 n.a, .int .i64 n.b, .int .i64 n.c, .string n.pre] 35 (0, 0))) := rowApart HR2.out d3.apart (by omega)
  have b3 : Below w.heap.size w w3 := d3.below
  have gl3 := d3.cur.lt
  cases on
  · have hz := name5_size (n := n)
    have hs1 := hdn.size
    have q4 := name_spec w3 n (by omega) (by omega)
    obtain ⟨t, ht⟩ : ∃ t, name5 n = t := ⟨_, rfl⟩
    rw [ht] at q4 hz
    have k0 : w3.cell? ⟨w2.heap.size, 0, none⟩ = some (.string n.path) := row_cells HR3.out 0
    have k1 : w3.cell? ⟨w2.heap.size, 1, none⟩ = some (.int .i64 n.a) := row_cells HR3.out 1
    have k2 : w3.cell? ⟨w2.heap.size, 2, none⟩ = some (.int .i64 n.b) := row_cells HR3.out 2
    have k3 : w3.cell? ⟨w2.heap.size, 3, none⟩ = some (.int .i64 n.c) := row_cells HR3.out 3
    have k4 : w3.cell? ⟨w2.heap.size, 4, none⟩ = some (.string n.pre) := row_cells HR3.out 4
    clear ht d3
    go_wp2_with fail
    refine q4.mono ?_
    rintro e w4 ⟨rfl, b4⟩
    clear k0 k1 k2 k3 k4 q4
    go_wp2_with fail
    go_ret
    exact ⟨t, rfl, by omega, b3.trans (b4.mono b3.size)⟩
  · have n3 : ∀ o, Drawn w W2 w.heap.size vb xs (w3.alloc o) := fun o => d3.on (Nat.le_refl _) HD2.out.cur.lt ((Below.refl _ _).alloc d3.apart.size _)
    go_wp2_with fail
    refine (str_any w _ w.heap.size vb xs w3.heap.size nameL (lit_block _ _ _) (by omega) (by decide) (by decide) hs hby hx (n3 _).below (Nat.le_refl _) (n3 _).cur).mono ?_
    rintro e w4 ⟨t, rfl, hm, d4⟩
    have hz := nameL_size t hm
    have b4 := d4.below
    clear n3 d3 d4 hm
    go_wp2_with fail
    go_ret
    exact ⟨t, rfl, hz, b4⟩

end Go.Proofs.YtljlcelbhlkmcabGreatDoor.Ent

/- Chapter 5, draws: a text that may be that of an entry. -/
namespace Go.Proofs.YtljlcelbhlkmcabGreatDoor.Ent
open Go.RowKit Go.Proofs.YtljlcelbhlkmcabGreatDoor.Mem Go.Proofs.YtljlcelbhlkmcabGreatDoor.Laws Go.Proofs.YtljlcelbhlkmcabGreatDoor.Bytes Go.Proofs.YtljlcelbhlkmcabGreatDoor.Sha Go.Proofs.YtljlcelbhlkmcabGreatDoor.Ver Go.Proofs.YtljlcelbhlkmcabGreatDoor.Mod Go.Proofs.YtljlcelbhlkmcabGreatDoor.Draw
set_option linter.unusedVariables false
set_option linter.unusedSimpArgs false

/-- block g holds the bytes ys, as a conversion of a text leaves them -/
def Bw (w : World) (g : Nat) (ys : List Int) : Prop :=
  ∃ cur : Array Value, w.heap[g]? = some (.cells cur 5 (cur.size, cur.size + 1)) ∧ Byt ys ∧ ys.length ≤ cur.size ∧ ∀ j, j < ys.length → cur[j]? = (bs ys)[j]?
theorem strBw (w : World) (s : ByteArray) : ∃ (cap : Nat) (W : World), (convert 9 22 (.string s)).run Tryz.prog w = .ok (.slice (some ⟨w.heap.size, 0, none⟩) s.size cap) W ∧ s.size ≤ cap ∧ Bw W w.heap.size (sb s) ∧ Below w.heap.size w W := by
  refine ⟨_, _, Lib.run_convert_string_bytes w 9 22 5 s Tryz.underlying9 Tryz.underlying22 Tryz.underlying5, grownCap_ge w s.size 0 5, ⟨_, Lib.bytesWorld_at_new w 5 s, sb_byt s, ?_, fun j hj => ?_⟩, Lib.bytesWorld_below w 5 s⟩
  · rw [sb_len]
    have : s.size = s.data.size := rfl
    simp [Lib.bytesCells]
  · rw [sb_len] at hj
    have h := Lib.bytesWorld_cell w 5 s j hj
    have hrow := Lib.bytesWorld_at_new w 5 s
    rw [row_cells hrow j] at h
    rw [h, bs_get]
    have hj3 : j < s.data.size := hj
    simp [sb, List.getD]
    rw [Array.getElem?_eq_getElem hj3]
    simp
theorem Bw.front {w : World} {g cap : Nat} {ys : List Int} (h : Bw w g ys) (k : Nat) (hk : k ≤ ys.length) (hc : ys.length ≤ cap) : Sl w (.slice (some ⟨g, 0, none⟩) k cap) (bs (ys.take k)) := by
  obtain ⟨cur, h1, h2, h3, h4⟩ := h
  have hl : (bs (ys.take k)).length = k := by rw [bs_len, List.length_take]; omega
  refine ⟨some ⟨g, 0, none⟩, cap, by rw [hl], by omega, (fun e => (by cases e)), fun _ => ⟨g, 0, rfl, fun j hj => ?_⟩⟩
  rw [hl] at hj
  rw [Nat.zero_add, row_cells h1 j, h4 j (by omega), bs_get, bs_get, List.getElem?_take, if_pos hj]
theorem Bw.byt {w : World} {g : Nat} {ys : List Int} (h : Bw w g ys) (k : Nat) : Byt (ys.take k) := by
  obtain ⟨cur, h1, h2, h3, h4⟩ := h
  exact fun x hx => h2 x (List.mem_of_mem_take hx)
theorem Bw.keep {w w' : World} {g : Nat} {ys : List Int} (h : Bw w g ys) (hk : w'.heap[g]? = w.heap[g]?) : Bw w' g ys := by
  obtain ⟨cur, h1, h2⟩ := h
  exact ⟨cur, hk.trans h1, h2⟩
theorem Bw.lt {w : World} {g : Nat} {ys : List Int} (h : Bw w g ys) : g < w.heap.size := by
  obtain ⟨cur, h1, _⟩ := h
  exact (Array.getElem?_eq_some_iff.1 h1).1
theorem Bw.cell {w : World} {g : Nat} {ys : List Int} (h : Bw w g ys) {k : Nat} (hk : k < ys.length) : (∃ x, w.cell? ⟨g, k, none⟩ = some (.int .u8 x)) ∧ w.frozen? ⟨g, k, none⟩ = false := by
  obtain ⟨cur, h1, h2, h3, h4⟩ := h
  refine ⟨⟨ys[k], ?_⟩, ?_⟩
  · rw [row_cells h1 k, h4 k hk, bs_get]
    simp [hk]
  · simp [World.frozen?, h1]
    omega
theorem Bw.set {w : World} {g : Nat} {ys : List Int} (h : Bw w g ys) (k : Nat) (x : Int) (hx : 0 ≤ x ∧ x ≤ 255) : Bw (w.setCell ⟨g, k, none⟩ (.int .u8 x)) g (ys.set k x) := by
  obtain ⟨cur, h1, h2, h3, h4⟩ := h
  refine ⟨cur.setIfInBounds k (.int .u8 x), ?_, ?_, by simpa using h3, fun j hj => ?_⟩
  · simp [World.setCell, Array.getElem?_modify, h1]
  · intro y hy
    rcases List.mem_or_eq_of_mem_set hy with hy | rfl
    · exact h2 y hy
    · exact hx
  · rw [List.length_set] at hj
    have h5 := h4 j hj
    rw [bs_get, List.getElem?_set]
    rw [bs_get] at h5
    rw [Array.getElem?_setIfInBounds]
    by_cases hjk : k = j
    · subst hjk
      have : k < cur.size := by omega
      simp [this, hj]
    · rw [if_neg hjk, if_neg hjk, h5]

theorem put5_pos {n : Nd} {l : List Nd} (h : entry5 n l = true) : 1 ≤ (put5 n l).size := by
  unfold put5
  rw [if_pos h, txt_sizev, List.length_append, List.length_append]
  have h2 := (Puts.num_len (l.length : Int)).1
  omega
theorem entry_drawn {n : Nd} {l : List Nd} (hn : Dn n) (hl : Srt l) (h3 : l.length ≤ 3) (hs : self5 n l = false) : entry5 n l = true := by
  unfold entry5
  rw [hs, hn.2.1, srt_rise l hl]
  simp
  omega
/-- bytes to be put into a text -/
def byteL : List Int := [0, 1, 2, 97, 64, 128]
theorem byteL_bd : ∀ y ∈ byteL, 0 ≤ y ∧ y ≤ 255 := by decide

set_option maxRecDepth 1000000 in
set_option maxHeartbeats 4000000 in
theorem get_drawn (w : World) (vb : Value) (xs : List Int) (hs : Sl w vb (bs xs)) (hby : Byt xs) (hx : xs.length ≤ 140737488355328) :
    Calls Tryz.prog 16 #[vb] w fun e w' => ∃ t : ByteArray, e = .returned (.string t) ∧ t.size ≤ 10000 ∧ Below w.heap.size w w' := by
  go_enter Tryz.func16, Tryz.ntmps16
  go_wp2_with fail
  refine (new_any w vb xs hs hby hx).mono ?_
  rintro e w1 ⟨rfl, d1⟩
  have gl1 := d1.cur.lt
  go_wp2_with fail
  refine (entry_any w w1 w.heap.size vb xs hs hby hx d1.below (Nat.le_refl _) d1.cur).mono ?_
  rintro e w2 ⟨n, v, l, rfl, hdn, hsr, hl3, hse, o2, d2⟩
  have hE := entry_drawn hdn hsr hl3 hse
  have hp1 := put5_pos hE
  have hp2 := put5_size hdn.bn (fun x hx => (hsr.1 x hx).bn) (by omega)
  have q3 := put_spec5 w2 n v l o2.sd (by omega) hdn.bn.big.1 hdn.bn.big.2 (fun x hx => (hsr.1 x hx).bn.big)
  obtain ⟨s, hs5⟩ : ∃ s, put5 n l = s := ⟨_, rfl⟩
  rw [hs5] at q3 hp1 hp2
  clear hE hs5 hdn hsr hl3 hse o2
  go_wp2_with fail
  refine q3.mono ?_
  rintro e w3 ⟨rfl, b3⟩
  have D3 : Drawn w w1 w.heap.size vb xs w3 := d2.on (Nat.le_refl _) gl1 (b3.mono d2.apart.size)
  have hg3 := D3.cur.lt
  clear q3 d1 d2 b3
  obtain ⟨cap, W4, hcv, hcap, hbw, b4⟩ := strBw w3 s
  have D4 : Drawn w w1 w.heap.size vb xs W4 := D3.on (Nat.le_refl _) gl1 (b4.mono D3.apart.size)
  have q5 := below_any w W4 w.heap.size vb xs 5 (by omega) (by omega) hs hby hx D4.below (Nat.le_refl _) D4.cur
  clear D3 b4
  go_wp2_with fail
  refine q5.mono ?_
  rintro e w5 ⟨x, rfl, hx0, hx5, d5⟩
  have hne : w3.heap.size ≠ w.heap.size := by omega
  have HB5 : Hid (Bw w5 w3.heap.size (sb s)) := hbw.keep (d5.apart.block w3.heap.size hbw.lt (by omega))
  have D5 : Drawn w w1 w.heap.size vb xs w5 := D4.and d5
  have HL : Hid ((sb s).length = s.size) := sb_len s
  clear q5 hcv hbw D4 d5
  by_cases h0 : x = 0
  · have e0 : (x == 0) = true := by simpa using h0
    have q6 := below_any w w5 w.heap.size vb xs (s.size : Int) (by omega) (by omega) hs hby hx D5.below (Nat.le_refl _) D5.cur
    clear h0 hx0 hx5
    go_wp2_with fail
    refine q6.mono ?_
    rintro e w6 ⟨k', rfl, hk0, hks, d6⟩
    obtain ⟨k, rfl⟩ : ∃ k : Nat, k' = (k : Int) := ⟨k'.toNat, by omega⟩
    have hk : k < s.size := by omega
    have HB6 : Hid (Bw w6 w3.heap.size (sb s)) := HB5.out.keep (d6.apart.block w3.heap.size HB5.out.lt (by omega))
    have D6 : Drawn w w1 w.heap.size vb xs w6 := D5.and d6
    have n6 : ∀ o, Drawn w w1 w.heap.size vb xs (w6.alloc o) := fun o => D6.on (Nat.le_refl _) gl1 ((Below.refl _ _).alloc D6.apart.size _)
    have HB7 : ∀ o, Hid (Bw (w6.alloc o) w3.heap.size (sb s)) := fun o => HB6.out.keep (heap_alloc_old w6 o HB6.out.lt)
    have gl6 := D6.cur.lt
    clear q6 HB5 D5 d6
    go_wp2_with fail
    refine (int_any w _ w.heap.size vb xs w6.heap.size byteL (lit_block _ _ _) (by omega) (by decide) (by decide) hs hby hx (n6 _).below (Nat.le_refl _) (n6 _).cur).mono ?_
    rintro e w7 ⟨y, rfl, hy, d7⟩
    have HB8 : Hid (Bw w7 w3.heap.size (sb s)) := (HB7 _).out.keep (d7.apart.block w3.heap.size (HB7 _).out.lt (by omega))
    have hyb := byteL_bd y hy
    have B7 := d7.below
    obtain ⟨⟨z, c7⟩, f7⟩ := HB8.out.cell (k := k) (by rw [HL.out]; exact hk)
    have hset := (HB8.out.set k y hyb)
    have hsl := (hset.front (cap := cap) s.size (by rw [List.length_set, HL.out]; exact Nat.le_refl _) (by rw [List.length_set, HL.out]; exact hcap))
    have hcv := Sha.conv_sl hsl (hset.byt s.size)
    have hBB : Below w.heap.size w (w7.setCell ⟨w3.heap.size, k, none⟩ (.int .u8 y)) := B7.setCell (p := ⟨w3.heap.size, k, none⟩) (by show _ ≤ w3.heap.size; omega) _
    have hz : (Plain.txt (List.take s.size ((sb s).set k y))).size ≤ 10000 := by rw [txt_sizev, List.length_take]; omega
    obtain ⟨t, ht⟩ : ∃ t, Plain.txt (List.take s.size ((sb s).set k y)) = t := ⟨_, rfl⟩
    rw [ht] at hcv hz
    clear ht hset hsl HB8 HB7 n6 HB6 D6 d7 hy
    have hyw : y % 256 = y := by omega
    go_wp2
    go_ret
    exact ⟨t, rfl, hz, hBB⟩
  have e0 : (x == 0) = false := by simpa using h0
  by_cases h1 : x = 1
  · have e1 : (x == 1) = true := by simpa using h1
    have q6 := below_any w w5 w.heap.size vb xs (s.size : Int) (by omega) (by omega) hs hby hx D5.below (Nat.le_refl _) D5.cur
    clear h0 h1 hx0 hx5
    go_wp2_with fail
    refine q6.mono ?_
    rintro e w6 ⟨k', rfl, hk0, hks, d6⟩
    obtain ⟨k, rfl⟩ : ∃ k : Nat, k' = (k : Int) := ⟨k'.toNat, by omega⟩
    have hk : k < s.size := by omega
    have HB6 : Hid (Bw w6 w3.heap.size (sb s)) := HB5.out.keep (d6.apart.block w3.heap.size HB5.out.lt (by omega))
    have B6 := d6.below
    have hsl := (HB6.out.front (cap := cap) k (by rw [HL.out]; omega) (by rw [HL.out]; exact hcap))
    have hcv := Sha.conv_sl hsl (HB6.out.byt k)
    have hz : (Plain.txt (List.take k (sb s))).size ≤ 10000 := by rw [txt_sizev, List.length_take]; omega
    obtain ⟨t, ht⟩ : ∃ t, Plain.txt (List.take k (sb s)) = t := ⟨_, rfl⟩
    rw [ht] at hcv hz
    have hkc : k ≤ cap := by omega
    clear ht hsl HB6 HB5 D5 d6 q6
    go_wp2
    go_ret
    exact ⟨t, rfl, hz, B6⟩
  have e1 : (x == 1) = false := by simpa using h1
  have B5 := D5.below
  have hsl := (HB5.out.front (cap := cap) s.size (by rw [HL.out]; exact Nat.le_refl _) (by rw [HL.out]; exact hcap))
  have hcv := Sha.conv_sl hsl (HB5.out.byt s.size)
  have hz : (Plain.txt (List.take s.size (sb s))).size ≤ 10000 := by rw [txt_sizev, List.length_take]; omega
  obtain ⟨t, ht⟩ : ∃ t, Plain.txt (List.take s.size (sb s)) = t := ⟨_, rfl⟩
  rw [ht] at hcv hz
  clear ht hsl HB5 D5 h0 h1
  go_wp2
  go_ret
  exact ⟨t, rfl, hz, B5⟩

end Go.Proofs.YtljlcelbhlkmcabGreatDoor.Ent

/- Chapter 5: the law FnRead, over contracts of the landed functions. -/
namespace Go.Proofs.YtljlcelbhlkmcabGreatDoor.Ent
open Go.RowKit Go.Proofs.YtljlcelbhlkmcabGreatDoor.Mem Go.Proofs.YtljlcelbhlkmcabGreatDoor.Laws Go.Proofs.YtljlcelbhlkmcabGreatDoor.Bytes Go.Proofs.YtljlcelbhlkmcabGreatDoor.Sha Go.Proofs.YtljlcelbhlkmcabGreatDoor.Ver Go.Proofs.YtljlcelbhlkmcabGreatDoor.Mod Go.Proofs.YtljlcelbhlkmcabGreatDoor.Draw
set_option linter.unusedVariables false
set_option linter.unusedSimpArgs false

theorem tx_ge (s : ByteArray) : s.size ≤ (Puts.tx s).length := by unfold Puts.tx; rw [List.length_append, sb_len]; omega
theorem txs_ge : ∀ (l : List ByteArray), ∀ t ∈ l, t.size ≤ (Puts.txs l).length := by
  intro l
  induction l with
  | nil => intro t ht; cases ht
  | cons s r ih =>
    intro t ht
    simp only [Puts.txs, List.length_append]
    rcases List.mem_cons.1 ht with rfl | h
    · have := tx_ge t; omega
    · have := ih t h; omega
theorem name_sizes {n : Nd} (h : n.ok = true) : n.path.size ≤ (name5 n).size ∧ n.pre.size ≤ (name5 n).size := by
  have h1 := pname_size (name5 n)
  rw [pname_name h] at h1
  exact h1
theorem get5_sizes {s : ByteArray} {n : Nd} {l : List Nd} (h : get5 s = (n, l, true)) : l.length ≤ 8 ∧ (n.path.size ≤ s.size ∧ n.pre.size ≤ s.size) ∧ ∀ x ∈ l, x.path.size ≤ s.size ∧ x.pre.size ≤ s.size := by
  obtain ⟨hE, hp⟩ := put_get5 h
  obtain ⟨hok, h8, hri, _⟩ := entry_parts hE
  have hsz : s.size = (Puts.tx (name5 n) ++ Puts.num (l.length : Int) ++ Puts.txs (l.map name5)).length := by
    rw [← hp]; unfold put5; rw [if_pos hE, txt_sizev]
  rw [List.length_append, List.length_append] at hsz
  have h1 := tx_ge (name5 n)
  have h2 := name_sizes hok
  refine ⟨h8, by omega, fun x hx => ?_⟩
  have h3 := name_sizes (rise_ok l hri x hx)
  have h4 := txs_ge (l.map name5) (name5 x) (List.mem_map_of_mem hx)
  omega

set_option maxRecDepth 1000000 in
set_option maxHeartbeats 8000000 in
theorem read5 (w : World) (v0 : Value) (xs0 : List Int) (h0 : Sl w v0 (bs xs0)) (y0 : Byt xs0) (m0 : xs0.length ≤ maxLen)
    (iPut : ∀ W, Below w.heap.size w W → ∀ (n : Nd) (v : Value) (l : List Nd), Sd W v l → l.length ≤ 1048576 → n.path.size ≤ 1048576 ∧ n.pre.size ≤ 1048576 → (∀ n ∈ l, n.path.size ≤ 1048576 ∧ n.pre.size ≤ 1048576) → Calls Tryz.prog 7 #[.agg #[.string n.path, .int .i64 n.a, .int .i64 n.b, .int .i64 n.c, .string n.pre, v]] W fun e w' => e = .returned (.string (put5 n l)) ∧ Below W.heap.size W w')
    (iOk : ∀ W, Below w.heap.size w W → ∀ (n : Nd) (v : Value) (l : List Nd), Sd W v l → l.length ≤ 1048576 → n.path.size ≤ 1048576 ∧ n.pre.size ≤ 1048576 → (∀ n ∈ l, n.path.size ≤ 1048576 ∧ n.pre.size ≤ 1048576) → Calls Tryz.prog 9 #[.agg #[.string n.path, .int .i64 n.a, .int .i64 n.b, .int .i64 n.c, .string n.pre, v]] W fun e w' => e = .returned (.bool (entry5 n l)) ∧ Below W.heap.size W w')
    (iGet : ∀ W, Below w.heap.size w W → ∀ s : ByteArray, s.size ≤ 1048576 → Calls Tryz.prog 10 #[.string s] W fun e w' => ∃ v', e = .returned (.tuple #[.agg #[.string (get5 s).1.path, .int .i64 (get5 s).1.a, .int .i64 (get5 s).1.b, .int .i64 (get5 s).1.c, .string (get5 s).1.pre, v'], .bool (get5 s).2.2]) ∧ Sd w' v' (get5 s).2.1 ∧ Below W.heap.size W w')
    (iName : ∀ W, Below w.heap.size w W → ∀ n : Nd, n.path.size ≤ 1048576 ∧ n.pre.size ≤ 1048576 → Calls Tryz.prog 12 #[.string n.path, .agg #[.int .i64 n.a, .int .i64 n.b, .int .i64 n.c, .string n.pre]] W fun e w' => e = .returned (.string (name5 n)) ∧ Below W.heap.size W w')
    (iPn : ∀ W, Below w.heap.size w W → ∀ s : ByteArray, s.size ≤ 1048576 → Calls Tryz.prog 11 #[.string s] W fun e w' => e = .returned (.tuple #[.agg #[.string (pname s).1.path, .int .i64 (pname s).1.a, .int .i64 (pname s).1.b, .int .i64 (pname s).1.c, .string (pname s).1.pre], .bool (pname s).2]) ∧ Below W.heap.size W w') :
    Calls Tryz.prog 4 #[v0] w fun e w' => e = .returned (.bool true) ∧ Below w.heap.size w w' := by
  unfold maxLen at m0
  by_cases hbig : 1048576 < xs0.length
  · obtain ⟨ao, cap, rfl, _, _, _⟩ := h0
    rw [bs_len]
    go_enter Tryz.func4, Tryz.ntmps4
    go_wp2_with (go_at_call 5; refine (big_yes _ _ _ _ hbig).mono ?_; rintro e w1 ⟨rfl, rfl⟩)
    go_ret
    exact ⟨rfl, Below.refl _ _⟩
  have q1 := get_drawn w v0 xs0 h0 y0 (by omega)
  have q4 : ∀ W, Below w.heap.size w W → _ := fun W hW => pname_drawn W v0 xs0 (h0.later hW) y0 (by omega)
  obtain ⟨ao, cap, rfl, _, _, _⟩ := h0
  rw [bs_len] at q1 q4 ⊢
  go_enter Tryz.func4, Tryz.ntmps4
  go_wp2_with fail
  refine (big_no _ _ _ _ hbig).mono ?_
  rintro e w0 ⟨rfl, rfl⟩
  go_wp2_with fail
  refine q1.mono ?_
  rintro e W1 ⟨s, rfl, hs, b1⟩
  have q2 := iGet W1 b1 s (by omega)
  have q3 : ∀ W, _ := fun W => get_spec5 W s (by omega)
  unfold Got at q3
  have hfact : (get5 s).2.2 = true → _ := fun h => get5_sizes (s := s) (n := (get5 s).1) (l := (get5 s).2.1) (by rw [← h])
  have hput : (get5 s).2.2 = true → _ := fun h => put_get5 (s := s) (n := (get5 s).1) (l := (get5 s).2.1) (by rw [← h])
  obtain ⟨n, l, ok, hg⟩ : ∃ n l ok, get5 s = (n, l, ok) := ⟨_, _, _, rfl⟩
  simp only [hg] at q2 q3 hfact hput
  have HF : Hid (ok = true → l.length ≤ 8 ∧ (n.path.size ≤ s.size ∧ n.pre.size ≤ s.size) ∧ ∀ x ∈ l, x.path.size ≤ s.size ∧ x.pre.size ≤ s.size) := hfact
  have HP : Hid (ok = true → entry5 n l = true ∧ put5 n l = s) := hput
  clear hfact hput hg iGet q1
  go_wp2_with fail
  refine q2.mono ?_
  rintro e W2 ⟨v2, rfl, s2, b2⟩
  have HS2 : Hid (Sd W2 v2 l) := s2
  have B2 : Below w.heap.size w W2 := b1.trans (b2.mono b1.size)
  obtain ⟨_, ao2, cp2, rfl, _⟩ := s2
  clear b1 b2 q2
  have hb3 : Below W2.heap.size W2 (W2.alloc (.cells #[.string n.path, .int .i64 n.a, .int .i64 n.b, .int .i64 n.c, .string n.pre, .slice ao2 l.length cp2] 28)) := (Below.refl _ _).alloc (Nat.le_refl _) _
  have B3 : Below w.heap.size w (W2.alloc (.cells #[.string n.path, .int .i64 n.a, .int .i64 n.b, .int .i64 n.c, .string n.pre, .slice ao2 l.length cp2] 28)) := B2.trans (hb3.mono B2.size)
  have HE3 : Hid ((W2.alloc (.cells #[.string n.path, .int .i64 n.a, .int .i64 n.b, .int .i64 n.c, .string n.pre, .slice ao2 l.length cp2] 28)).heap[W2.heap.size]? = some (.cells (ec n (.slice ao2 l.length cp2)) 28 (0, 0))) := heap_alloc_new W2 _
  have HS3 : Hid (Sd (W2.alloc (.cells #[.string n.path, .int .i64 n.a, .int .i64 n.b, .int .i64 n.c, .string n.pre, .slice ao2 l.length cp2] 28)) (.slice ao2 l.length cp2) l) := HS2.out.later hb3
  have q5 := q3 (W2.alloc (.cells #[.string n.path, .int .i64 n.a, .int .i64 n.b, .int .i64 n.c, .string n.pre, .slice ao2 l.length cp2] 28))
  clear q3 HS2 B2 hb3
  go_wp2_with fail
  refine q5.mono ?_
  rintro e W4 ⟨v4, rfl, o4, b4⟩
  have HE4 : Hid _ := rowKeep HE3.out b4
  have HS4 : Hid (Sd W4 (.slice ao2 l.length cp2) l) := HS3.out.later b4
  have B4 : Below w.heap.size w W4 := B3.trans (b4.mono B3.size)
  obtain ⟨ao4, cp4, rfl⟩ := on_slice5 o4
  clear q5 HE3 HS3 B3 b4 o4
  have hb5 : Below W4.heap.size W4 (W4.alloc (.cells #[.string n.path, .int .i64 n.a, .int .i64 n.b, .int .i64 n.c, .string n.pre, .slice ao4 l.length cp4] 28)) := (Below.refl _ _).alloc (Nat.le_refl _) _
  have B5 : Below w.heap.size w (W4.alloc (.cells #[.string n.path, .int .i64 n.a, .int .i64 n.b, .int .i64 n.c, .string n.pre, .slice ao4 l.length cp4] 28)) := B4.trans (hb5.mono B4.size)
  have HE5 : Hid _ := rowKeep HE4.out hb5
  have HS5 : Hid (Sd (W4.alloc (.cells #[.string n.path, .int .i64 n.a, .int .i64 n.b, .int .i64 n.c, .string n.pre, .slice ao4 l.length cp4] 28)) (.slice ao2 l.length cp2) l) := HS4.out.later hb5
  have q6 := q4 (W4.alloc (.cells #[.string n.path, .int .i64 n.a, .int .i64 n.b, .int .i64 n.c, .string n.pre, .slice ao4 l.length cp4] 28)) B5
  clear q4 HE4 HS4 B4 hb5
  go_wp2_with fail
  refine q6.mono ?_
  rintro e W6 ⟨t, rfl, ht, b6⟩
  have HE6 : Hid _ := rowKeep HE5.out b6
  have HS6 : Hid (Sd W6 (.slice ao2 l.length cp2) l) := HS5.out.later b6
  have B6 : Below w.heap.size w W6 := B5.trans (b6.mono B5.size)
  clear q6 HE5 HS5 B5 b6
  have q7 := iPn W6 B6 t (by omega)
  have q9 : ∀ W, _ := fun W => pname_spec W t (by omega)
  have hz9 := pname_size t
  have hnm : (pname t).2 = true → _ := fun h => name_pname (s := t) (n := (pname t).1) (by rw [← h])
  obtain ⟨m, is, hpn⟩ : ∃ m is, pname t = (m, is) := ⟨_, _, rfl⟩
  simp only [hpn] at q7 q9 hz9 hnm
  have HN : Hid (is = true → m.ok = true ∧ name5 m = t) := hnm
  clear hnm hpn iPn
  go_wp2_with fail
  refine q7.mono ?_
  rintro e W7 ⟨rfl, b7⟩
  have HE7 : Hid _ := rowKeep HE6.out b7
  have HS7 : Hid (Sd W7 (.slice ao2 l.length cp2) l) := HS6.out.later b7
  have B7 : Below w.heap.size w W7 := B6.trans (b7.mono B6.size)
  clear q7 HE6 HS6 B6 b7
  have hb8 : Below W7.heap.size W7 (W7.alloc (.cells #[.string m.path, .int .i64 m.a, .int .i64 m.b, .int .i64 m.c, .string m.pre] 35)) := (Below.refl _ _).alloc (Nat.le_refl _) _
  have B8 : Below w.heap.size w (W7.alloc (.cells #[.string m.path, .int .i64 m.a, .int .i64 m.b, .int .i64 m.c, .string m.pre] 35)) := B7.trans (hb8.mono B7.size)
  have HE8 : Hid _ := rowKeep HE7.out hb8
  have HM8 : Hid ((W7.alloc (.cells #[.string m.path, .int .i64 m.a, .int .i64 m.b, .int .i64 m.c, .string m.pre] 35)).heap[W7.heap.size]? = some (.cells #[.string m.path, .int .i64 m.a, .int .i64 m.b, .int .i64 m.c, .string m.pre] 35 (0, 0))) := heap_alloc_new W7 _
  have HS8 : Hid (Sd (W7.alloc (.cells #[.string m.path, .int .i64 m.a, .int .i64 m.b, .int .i64 m.c, .string m.pre] 35)) (.slice ao2 l.length cp2) l) := HS7.out.later hb8
  have q8 := q9 (W7.alloc (.cells #[.string m.path, .int .i64 m.a, .int .i64 m.b, .int .i64 m.c, .string m.pre] 35))
  clear q9 HE7 HS7 B7 hb8
  go_wp2_with fail
  refine q8.mono ?_
  rintro e W9 ⟨rfl, b9⟩
  have HE9 : Hid _ := rowKeep HE8.out b9
  have HM9 : Hid _ := rowKeep HM8.out b9
  have HS9 : Hid (Sd W9 (.slice ao2 l.length cp2) l) := HS8.out.later b9
  have B9 : Below w.heap.size w W9 := B8.trans (b9.mono B8.size)
  clear q8 HE8 HS8 HM8 B8 b9
  have hb10 : Below W9.heap.size W9 (W9.alloc (.cells #[.string m.path, .int .i64 m.a, .int .i64 m.b, .int .i64 m.c, .string m.pre] 35)) := (Below.refl _ _).alloc (Nat.le_refl _) _
  have B10 : Below w.heap.size w (W9.alloc (.cells #[.string m.path, .int .i64 m.a, .int .i64 m.b, .int .i64 m.c, .string m.pre] 35)) := B9.trans (hb10.mono B9.size)
  have HE10 : Hid _ := rowKeep HE9.out hb10
  have HM10 : Hid _ := rowKeep HM9.out hb10
  have HS10 : Hid (Sd (W9.alloc (.cells #[.string m.path, .int .i64 m.a, .int .i64 m.b, .int .i64 m.c, .string m.pre] 35)) (.slice ao2 l.length cp2) l) := HS9.out.later hb10
  have kE : Hid _ := HE9.out
  have kM : Hid _ := HM9.out
  have hzE : W2.heap.size < W9.heap.size := (Array.getElem?_eq_some_iff.1 HE9.out).1
  have hzM : W7.heap.size < W9.heap.size := (Array.getElem?_eq_some_iff.1 HM9.out).1
  clear HE9 HM9 HS9 B9 hb10
  have nt : (t.toList == t.toList) = true := by simp
  have ns : (s.toList == s.toList) = true := by simp
  cases ok
  · clear HF HP iOk iPut
    cases is
    · clear iName HN
      go_wp2
      go_ret
      exact ⟨rfl, B10⟩
    · obtain ⟨hmk, hmt⟩ := HN.out rfl
      have qA := iName _ B10 m (by omega)
      rw [hmt] at qA
      obtain ⟨x0, x1, x2, x3, x4⟩ := nc_cells kM.out
      clear hmt hmk HN iName
      go_wp2_with fail
      refine qA.mono ?_
      rintro e WA ⟨rfl, bA⟩
      have BA : Below w.heap.size w WA := B10.trans (bA.mono B10.size)
      clear qA x0 x1 x2 x3 x4
      go_wp2
      go_ret
      exact ⟨rfl, BA⟩
  · obtain ⟨hl8, hz1, hz2⟩ := HF.out rfl
    obtain ⟨hE, hp⟩ := HP.out rfl
    have HZ2 : Hid (∀ x ∈ l, x.path.size ≤ 1048576 ∧ x.pre.size ≤ 1048576) := fun x hx => by have := hz2 x hx; omega
    have qA := iOk _ B10 n (.slice ao2 l.length cp2) l HS10.out (by omega) (by omega) HZ2.out
    rw [hE] at qA
    have qB : ∀ W, Below w.heap.size w W → Sd W (.slice ao2 l.length cp2) l → _ := fun W hW hs => iPut W hW n (.slice ao2 l.length cp2) l hs (by omega) (by omega) HZ2.out
    rw [hp] at qB
    obtain ⟨k0, k1, k2, k3, k4, k5⟩ := ec_cells kE.out
    clear iOk iPut hE hp hz2 HF HP
    go_wp2_with fail
    refine qA.mono ?_
    rintro e WA ⟨rfl, bA⟩
    have HEA : Hid _ := rowKeep HE10.out bA
    have HMA : Hid _ := rowKeep HM10.out bA
    have BA : Below w.heap.size w WA := B10.trans (bA.mono B10.size)
    have SA : Hid (Sd WA (.slice ao2 l.length cp2) l) := HS10.out.later bA
    clear qA k0 k1 k2 k3 k4 k5 HE10 HM10 HS10 B10 bA kE kM
    obtain ⟨k0, k1, k2, k3, k4, k5⟩ := ec_cells HEA.out
    go_wp2_with fail
    refine (qB _ BA SA.out).mono ?_
    rintro e WB ⟨rfl, bB⟩
    have HMB : Hid _ := rowKeep HMA.out bB
    have BB : Below w.heap.size w WB := BA.trans (bB.mono BA.size)
    clear qB k0 k1 k2 k3 k4 k5 HEA HMA SA BA bB
    cases is
    · clear iName HN
      go_wp2
      go_ret
      exact ⟨rfl, BB⟩
    · obtain ⟨hmk, hmt⟩ := HN.out rfl
      have qA := iName _ BB m (by omega)
      rw [hmt] at qA
      obtain ⟨x0, x1, x2, x3, x4⟩ := nc_cells HMB.out
      clear hmt hmk HN iName
      go_wp2_with fail
      refine qA.mono ?_
      rintro e WC ⟨rfl, bC⟩
      have BC : Below w.heap.size w WC := BB.trans (bC.mono BB.size)
      clear qA x0 x1 x2 x3 x4
      go_wp2
      go_ret
      exact ⟨rfl, BC⟩

end Go.Proofs.YtljlcelbhlkmcabGreatDoor.Ent
