/- Texts in one: Plain3, EntP, Sha2, Sha3. -/
import Derived.Test.YtbopliahafkecaaGreatDoorPk6
import Derived.Test.YtbopliahafkecaaGreatDoorPk13
import Derived.Test.YtbopliahafkecaaGreatDoorPk2
import Derived.Test.YtbopliahafkecaaGreatDoorPk15
import Derived.Test.YtbopliahafkecaaGreatDoorPk17
import Derived.Test.YtbopliahafkecaaGreatDoorPk7
/- Plain lists and numbers: what was put is got back. -/
namespace Go.Proofs.YtbopliahafkecaaGreatDoor.Plain
open Go.Proofs.YtbopliahafkecaaGreatDoor.Mem Go.Proofs.YtbopliahafkecaaGreatDoor.Laws Go.Proofs.YtbopliahafkecaaGreatDoor.Puts Go.Proofs.YtbopliahafkecaaGreatDoor.Gets

theorem split_mul (m : Nat) (W : Int) : ((m % 128 : Nat) : Int) * W + ((m / 128 : Nat) : Int) * (W * 128) = (m : Int) * W := by
  have h : (m : Int) = ((m / 128 : Nat) : Int) * 128 + ((m % 128 : Nat) : Int) := by omega
  have e : (m : Int) * W = (((m / 128 : Nat) : Int) * 128 + ((m % 128 : Nat) : Int)) * W := by rw [← h]
  rw [e, Int.add_mul, Int.mul_assoc, Int.mul_comm 128 W, Int.add_comm]

theorem dec_enc (f : Nat) : ∀ (m : Nat) (k : Nat) (N W : Int) (r : List Int), m ≤ f → 0 ≤ N → 0 ≤ W → N + (m : Int) * W ≤ 1000000000 → k + (enc m).length ≤ 5 → (k = 0 ∨ 0 < m) → dec k N W (enc m ++ r) = some (N + (m : Int) * W, k + (enc m).length) := by
  induction f with
  | zero =>
    intro m k N W r hm h0 hW hN hk hz
    obtain rfl : m = 0 := by omega
    rw [enc_small (by omega)] at hk ⊢
    have hk0 : k = 0 := by omega
    subst hk0
    exact dec_good (by omega) (by omega) (by rintro (h | h) <;> simp at * <;> omega)
  | succ f ih =>
    intro m k N W r hm h0 hW hN hk hz
    by_cases hs : m < 128
    · rw [enc_small hs] at hk ⊢
      have e : ((m : Nat) : Int) % 128 = (m : Int) := by omega
      have hg := dec_good (k := k) (N := N) (W := W) (c := (m : Int)) (r := r) (by simp at hk; omega) (by omega) (by rw [e]; omega)
      rw [e] at hg
      exact hg
    · rw [enc_step hs] at hk ⊢
      simp only [List.length_cons] at hk
      have e : ((m % 128 + 128 : Nat) : Int) % 128 = ((m % 128 : Nat) : Int) := by omega
      have hstep := dec_more (k := k) (N := N) (W := W) (c := ((m % 128 + 128 : Nat) : Int)) (r := enc (m / 128) ++ r) (by omega) (by omega)
      rw [e] at hstep
      have hsm := split_mul m W
      have hp : 0 ≤ ((m % 128 : Nat) : Int) * W := Int.mul_nonneg (by omega) hW
      have hih := ih (m / 128) (k + 1) (N + ((m % 128 : Nat) : Int) * W) (W * 128) r (by omega) (by omega) (by omega) (by omega) (by omega) (.inr (by omega))
      rw [List.cons_append, hstep, hih]
      simp only [List.length_cons, Option.some.injEq, Prod.mk.injEq]
      omega

theorem num_eq (n : Int) : num n = enc (clampN n).toNat := rfl

/-- A number comes back. -/
theorem getNum_back (ys r : List Int) (n : Int) : getNum (ys ++ (num n ++ r)) (ys.length : Int) = (clampN n, (ys.length : Int) + (num n).length, true) := by
  have hb := clampN_bd n
  have hl := num_len n
  have e : ((clampN n).toNat : Int) = clampN n := by omega
  have hd := dec_enc (clampN n).toNat (clampN n).toNat 0 0 1 r (Nat.le_refl _) (by omega) (by omega) (by omega) (by rw [← num_eq]; omega) (.inl rfl)
  rw [← num_eq] at hd
  have hlen : ys.length < (ys ++ (num n ++ r)).length := by simp; omega
  have h := getNum_some (xs := ys ++ (num n ++ r)) (a := ys.length) hlen (by rw [List.drop_append, List.drop_eq_nil_of_le (Nat.le_refl _), Nat.sub_self, List.nil_append, List.drop_zero]; exact hd)
  rw [h]
  simp only [Prod.mk.injEq, and_true]
  omega

theorem dec_big (l : List Int) : ∀ (k : Nat) (N W : Int), (∀ c ∈ l, 128 ≤ c) → dec k N W l = none := by
  induction l with
  | nil => intro k N W _; rfl
  | cons c r ih =>
    intro k N W h
    by_cases h5 : k = 5
    · subst h5; exact dec_five
    · rw [dec_more h5 (h c (List.mem_cons_self ..))]
      exact ih _ _ _ (fun x hx => h x (List.mem_cons_of_mem _ hx))

theorem enc_front (f : Nat) : ∀ m, m ≤ f → ∀ c ∈ (enc m).dropLast, 128 ≤ c := by
  induction f with
  | zero => intro m hm; rw [enc_small (by omega)]; simp
  | succ f ih =>
    intro m hm
    by_cases hs : m < 128
    · rw [enc_small hs]; simp
    · rw [enc_step hs]
      have hne : enc (m / 128) ≠ [] := by
        intro h; have := enc_len (m / 128); rw [h] at this; simp at this
      rw [List.dropLast_cons_of_ne_nil hne]
      intro c hc
      rcases List.mem_cons.1 hc with rfl | hc
      · omega
      · exact ih (m / 128) (by omega) c hc

/-- A number that lacks its last byte does not. -/
theorem getNum_cut (ys : List Int) (n : Int) : getNum ((ys ++ num n).take ((ys ++ num n).length - 1)) (ys.length : Int) = (0, 0, false) := by
  have hl := num_len n
  have hne : num n ≠ [] := by intro h; rw [h] at hl; simp at hl
  have e : (ys ++ num n).take ((ys ++ num n).length - 1) = ys ++ (num n).dropLast := by
    rw [← List.dropLast_eq_take, List.dropLast_append_of_ne_nil hne]
  rw [e]
  by_cases h0 : (num n).dropLast.length = 0
  · exact getNum_out (.inr (by simp [List.length_append] at *; omega))
  · refine getNum_none (by rw [List.length_append]; omega) ?_
    rw [List.drop_append, List.drop_eq_nil_of_le (Nat.le_refl _), Nat.sub_self, List.nil_append, List.drop_zero]
    exact dec_big _ _ _ _ (enc_front _ _ (Nat.le_refl _))

theorem u8s_sb (s : ByteArray) : u8s (sb s) = s.data.toList := by
  unfold u8s sb
  rw [List.map_map]
  have h : ((fun x : Int => UInt8.ofNat x.toNat) ∘ fun b : UInt8 => (b.toNat : Int)) = id := by
    funext b
    simp
  rw [h, List.map_id]
theorem txt_sb (s : ByteArray) : txt (sb s) = s := by
  unfold txt
  rw [u8s_sb]

theorem clamp_size {n : Nat} (h : n ≤ 1000000000) : clampN (n : Int) = (n : Int) := by
  unfold clampN
  rw [if_neg (by omega), if_neg (by omega)]

/-- A text comes back. -/
theorem getText_back (ys r : List Int) (s : ByteArray) (hs : s.size ≤ 1000000000) : getText (ys ++ (tx s ++ r)) (ys.length : Int) = (s, (ys.length : Int) + (tx s).length, true) := by
  have hg := getNum_back ys (sb s ++ r) (s.size : Int)
  rw [clamp_size hs] at hg
  have e : ys ++ (tx s ++ r) = ys ++ (num (s.size : Int) ++ (sb s ++ r)) := by unfold tx; rw [List.append_assoc]
  rw [e]
  have hl : (ys ++ (num (s.size : Int) ++ (sb s ++ r))).length = ys.length + ((num (s.size : Int)).length + (s.size + r.length)) := by
    simp only [List.length_append, sb_len]
  have hg2 : getNum (ys ++ (num (s.size : Int) ++ (sb s ++ r))) (ys.length : Int) = ((s.size : Int), ((ys.length + (num (s.size : Int)).length : Nat) : Int), true) := by
    rw [hg]; simp
  have h := getText_yes hg2 (by rw [hl]; omega)
  rw [h]
  have hd : ((ys ++ (num (s.size : Int) ++ (sb s ++ r))).drop (ys.length + (num (s.size : Int)).length)).take s.size = sb s := by
    rw [← List.append_assoc, List.drop_append, List.drop_eq_nil_of_le (by simp), List.nil_append, show ys.length + (num (s.size : Int)).length - (ys ++ num (s.size : Int)).length = 0 by simp, List.drop_zero, List.take_append_of_le_length (by rw [sb_len]; exact Nat.le_refl _), List.take_of_length_le (by rw [sb_len]; exact Nat.le_refl _)]
  rw [hd, txt_sb]
  have ht : (tx s).length = (num (s.size : Int)).length + s.size := by unfold tx; rw [List.length_append, sb_len]
  rw [ht]
  simp only [Prod.mk.injEq, and_true, true_and]
  omega

theorem rd_back (l : List ByteArray) : ∀ (ys r : List Int), (∀ s ∈ l, s.size ≤ 1000000000) → rd (ys ++ (txs l ++ r)) l.length (ys.length : Int) = some (l, (ys.length : Int) + (txs l).length) := by
  induction l with
  | nil => intro ys r _; simp [rd, txs]
  | cons s t ih =>
    intro ys r hs
    have e : ys ++ (txs (s :: t) ++ r) = ys ++ (tx s ++ (txs t ++ r)) := by simp only [txs, List.append_assoc]
    have e2 : ys ++ (tx s ++ (txs t ++ r)) = (ys ++ tx s) ++ (txs t ++ r) := by simp only [List.append_assoc]
    rw [e, List.length_cons, rd_yes (getText_back ys (txs t ++ r) s (hs s (List.mem_cons_self ..))), e2]
    have h := ih (ys ++ tx s) r (fun x hx => hs x (List.mem_cons_of_mem _ hx))
    have e3 : ((ys ++ tx s).length : Int) = (ys.length : Int) + ((tx s).length : Int) := by rw [List.length_append]; omega
    rw [e3] at h
    rw [h]
    simp only [Option.map_some, txs, List.length_append, Option.some.injEq, Prod.mk.injEq, true_and]
    omega

/-- Texts come back. -/
theorem getTexts_back (ys r : List Int) (l : List ByteArray) (hl : l.length ≤ 200) (hs : ∀ s ∈ l, s.size ≤ 1000000000) :
    getTexts ((ys ++ num (l.length : Int) ++ txs l) ++ r) (ys.length : Int) = (l, ((ys ++ num (l.length : Int) ++ txs l).length : Int), true) := by
  have hg := getNum_back ys (txs l ++ r) (l.length : Int)
  rw [clamp_size (by omega)] at hg
  have e : (ys ++ num (l.length : Int) ++ txs l) ++ r = ys ++ (num (l.length : Int) ++ (txs l ++ r)) := by simp only [List.append_assoc]
  have e2 : ys ++ (num (l.length : Int) ++ (txs l ++ r)) = (ys ++ num (l.length : Int)) ++ (txs l ++ r) := by simp only [List.append_assoc]
  rw [e]
  have hr := rd_back l (ys ++ num (l.length : Int)) r hs
  rw [← e2] at hr
  have e3 : ((ys ++ num (l.length : Int)).length : Int) = (ys.length : Int) + ((num (l.length : Int)).length : Int) := by rw [List.length_append]; omega
  rw [e3] at hr
  rw [getTexts_some hg hl hr]
  simp only [List.length_append, Prod.mk.injEq, true_and, and_true]
  omega

end Go.Proofs.YtbopliahafkecaaGreatDoor.Plain

/- Chapter 5: names and texts and back; plain facts alone. -/
namespace Go.Proofs.YtbopliahafkecaaGreatDoor.Ent
open Go.RowKit Go.Proofs.YtbopliahafkecaaGreatDoor.Mem Go.Proofs.YtbopliahafkecaaGreatDoor.Laws Go.Proofs.YtbopliahafkecaaGreatDoor.Bytes Go.Proofs.YtbopliahafkecaaGreatDoor.Sha Go.Proofs.YtbopliahafkecaaGreatDoor.Ver Go.Proofs.YtbopliahafkecaaGreatDoor.Mod
set_option linter.unusedVariables false
set_option linter.unusedSimpArgs false

theorem name_sb {n : Nd} (h : n.ok = true) : sb (name5 n) = sb n.path ++ [64] ++ vt n.a n.b n.c n.pre := by
  unfold name5
  have hv := (ok_parts h).2
  rw [if_pos h, sb_app, sb_app, sb_at, verText_ok hv, sb_txtv (vt_byt hv)]

/-- a name comes back -/
theorem pname_name {n : Nd} (h : n.ok = true) : pname (name5 n) = (n, true) := by
  obtain ⟨hp, hv⟩ := ok_parts h
  have hsp : splitT 64 (name5 n) = [n.path, Plain.txt (vt n.a n.b n.c n.pre)] := by
    unfold splitT split
    rw [name_sb h, split_part 64 _ _ (path_no hp), split_last 64 _ (vt_no hv)]
    simp [txt_sbv]
  unfold pname
  rw [hsp]
  simp only
  rw [parse_text hv]
  unfold pn
  have h' : fits4 n.path n.a n.b n.c n.pre = true := h
  simp only [h', and_self, if_true]
/-- what is read as a name has that name -/
theorem name_pname {s : ByteArray} {n : Nd} (h : pname s = (n, true)) : n.ok = true ∧ name5 n = s := by
  unfold pname at h
  split at h
  · rename_i x y hxy
    unfold pn at h
    split at h
    · rename_i hc
      obtain ⟨⟨a, b, c, p⟩, r, hpv⟩ : ∃ q r, parseV y = (q, r) := ⟨_, _, rfl⟩
      rw [hpv] at h hc
      simp only [Prod.mk.injEq, and_true] at h hc
      obtain ⟨rfl, hf⟩ := hc
      subst h
      have hok : (⟨x, a, b, c, p⟩ : Nd).ok = true := hf
      obtain ⟨hv, ht⟩ := parse_back hpv
      refine ⟨hok, ?_⟩
      unfold name5
      rw [if_pos hok]
      simp only
      rw [ht]
      have hj := join_split 64 (sb s) []
      have hT := splitT_sb 64 s
      rw [hxy] at hT
      have hT' : splitL 64 [] (sb s) = [sb x, sb y] := hT.symm
      rw [hT'] at hj
      simp only [join, List.nil_append] at hj
      rw [← txt_sbv (x ++ ⟨#[64]⟩ ++ y), sb_app, sb_app, sb_at, hj, txt_sbv]
    · simp at h
  · simp at h

theorem dec_canon : ∀ (l : List Int) (k : Nat) (N W n : Int) (k' : Nat), Plain.dec k N W l = some (n, k') → Byt l → ∃ m : Nat, n = N + (m : Int) * W ∧ k' = k + (Plain.enc m).length ∧ l = Plain.enc m ++ l.drop (Plain.enc m).length ∧ (0 < k → 0 < m) := by
  intro l
  induction l with
  | nil => intro k N W n k' h; simp [Plain.dec] at h
  | cons c r ih =>
    intro k N W n k' h hb
    have hc : 0 ≤ c ∧ c ≤ 255 := hb c (by simp)
    rw [Plain.dec] at h
    split at h
    · cases h
    · split at h
      · rename_i h5 h128
        obtain ⟨m, hn, hk, hl, hm⟩ := ih _ _ _ _ _ h (fun x hx => hb x (by simp [hx]))
        have hm0 := hm (by omega)
        obtain ⟨d, hd⟩ : ∃ d : Nat, c = (d : Int) := ⟨c.toNat, by omega⟩
        subst hd
        have e1 : (d % 128 + 128 * m) % 128 + 128 = d := by omega
        have e2 : (d % 128 + 128 * m) / 128 = m := by omega
        have henc : Plain.enc (d % 128 + 128 * m) = (d : Int) :: Plain.enc m := by rw [Plain.enc_step (by omega), e1, e2]
        refine ⟨d % 128 + 128 * m, ?_, ?_, ?_, fun _ => by omega⟩
        · rw [hn]
          have : (((d % 128 + 128 * m : Nat) : Int)) = (d : Int) % 128 + 128 * (m : Int) := by omega
          rw [this, Int.add_mul, Int.add_assoc, Int.mul_comm W 128, ← Int.mul_assoc, Int.mul_comm (m : Int) 128]
        · rw [hk, henc, List.length_cons]; omega
        · rw [henc]
          simp only [List.cons_append, List.length_cons, List.drop_succ_cons]
          rw [← hl]
      · split at h
        · cases h
        · rename_i h5 h128 hbad
          simp only [Option.some.injEq, Prod.mk.injEq] at h
          obtain ⟨rfl, rfl⟩ := h
          obtain ⟨d, hd⟩ : ∃ d : Nat, c = (d : Int) := ⟨c.toNat, by omega⟩
          subst hd
          have hd128 : d < 128 := by omega
          have e : (d : Int) % 128 = (d : Int) := by omega
          refine ⟨d, by rw [e], by rw [Plain.enc_small hd128]; rfl, by rw [Plain.enc_small hd128]; simp, fun hk => ?_⟩
          rw [not_or] at hbad
          rw [e] at hbad
          omega

theorem num_enc {n : Int} {m : Nat} (h : n = (m : Int)) (hm : n ≤ 1000000000) : Puts.num n = Plain.enc m := by
  rw [Plain.num_eq, h, Plain.clamp_size (by omega)]
  simp
theorem dec_bd : ∀ (l : List Int) (k : Nat) (N W n : Int) (k' : Nat), Plain.dec k N W l = some (n, k') → n ≤ 1000000000 := by
  intro l
  induction l with
  | nil => intro k N W n k' h; simp [Plain.dec] at h
  | cons c r ih =>
    intro k N W n k' h
    rw [Plain.dec] at h
    split at h
    · cases h
    · split at h
      · exact ih _ _ _ _ _ h
      · split at h
        · cases h
        · rename_i hbad
          simp only [Option.some.injEq, Prod.mk.injEq] at h
          rw [not_or] at hbad
          omega
/-- a number that is read stands there as it is put -/
theorem getNum_canon {xs : List Int} {a : Nat} {n p : Int} (hb : Byt xs) (h : Plain.getNum xs (a : Int) = (n, p, true)) : ∃ q : Nat, p = (q : Int) ∧ 0 ≤ n ∧ n ≤ 1000000000 ∧ a ≤ xs.length ∧ xs.drop a = Puts.num n ++ xs.drop q := by
  unfold Plain.getNum at h
  split at h
  · rename_i hc
    rw [show ((a : Int)).toNat = a from rfl] at h
    split at h
    · rename_i n' k hd
      simp only [Prod.mk.injEq, and_true] at h
      obtain ⟨rfl, rfl⟩ := h
      obtain ⟨m, hn, hk, hl, _⟩ := dec_canon _ _ _ _ _ _ hd (fun x hx => hb x (List.mem_of_mem_drop hx))
      have h9 := dec_bd _ _ _ _ _ _ hd
      have hn' : n' = (m : Int) := by omega
      refine ⟨a + k, by omega, by omega, h9, by omega, ?_⟩
      rw [num_enc hn' h9]
      have hk' : k = (Plain.enc m).length := by omega
      rw [← List.drop_drop, hk']
      exact hl
    · simp at h
  · simp at h
theorem getText_canon {xs : List Int} {a : Nat} {s : ByteArray} {p : Int} (hb : Byt xs) (h : Plain.getText xs (a : Int) = (s, p, true)) : ∃ q : Nat, p = (q : Int) ∧ s.size ≤ 1000000000 ∧ xs.drop a = Puts.tx s ++ xs.drop q := by
  unfold Plain.getText at h
  split at h
  · rename_i hc
    obtain ⟨n, q, ok, hg⟩ : ∃ n q ok, Plain.getNum xs (a : Int) = (n, q, ok) := ⟨_, _, _, rfl⟩
    rw [hg] at h hc
    simp only at h hc
    obtain ⟨rfl, hc2⟩ := hc
    simp only [Prod.mk.injEq, and_true] at h
    obtain ⟨rfl, rfl⟩ := h
    obtain ⟨q', rfl, hn0, hn9, _, hd⟩ := getNum_canon hb hg
    obtain ⟨m, rfl⟩ : ∃ m : Nat, n = (m : Int) := ⟨n.toNat, by omega⟩
    have hsz : (Plain.txt ((xs.drop ((q' : Int)).toNat).take ((m : Int)).toNat)).size = m := by
      rw [txt_sizev]
      simp
      omega
    have hsb : sb (Plain.txt ((xs.drop ((q' : Int)).toNat).take ((m : Int)).toNat)) = (xs.drop q').take m := by
      rw [sb_txtv (fun x hx => hb x (List.mem_of_mem_drop (List.mem_of_mem_take hx)))]
      rfl
    refine ⟨q' + m, by omega, by omega, ?_⟩
    unfold Puts.tx
    rw [hsz, hsb, hd, List.append_assoc, ← List.drop_drop, List.take_append_drop]
  · simp at h
theorem rd_canon {xs : List Int} (hb : Byt xs) : ∀ (n a : Nat) (l : List ByteArray) (p : Int), Plain.rd xs n (a : Int) = some (l, p) → ∃ q : Nat, p = (q : Int) ∧ l.length = n ∧ xs.drop a = Puts.txs l ++ xs.drop q := by
  intro n
  induction n with
  | zero =>
    intro a l p h
    simp [Plain.rd] at h
    obtain ⟨rfl, rfl⟩ := h
    exact ⟨a, rfl, rfl, rfl⟩
  | succ n ih =>
    intro a l p h
    rw [Plain.rd] at h
    split at h
    · rename_i hok
      obtain ⟨s, q, ok, hg⟩ : ∃ s q ok, Plain.getText xs (a : Int) = (s, q, ok) := ⟨_, _, _, rfl⟩
      rw [hg] at h hok
      simp only at h hok
      subst hok
      obtain ⟨q', rfl, _, hd⟩ := getText_canon hb hg
      rw [Option.map_eq_some_iff] at h
      obtain ⟨⟨l2, q2⟩, h1, h2⟩ := h
      simp only [Prod.mk.injEq] at h2
      obtain ⟨rfl, rfl⟩ := h2
      obtain ⟨q3, hq3, hl3, hd3⟩ := ih _ _ _ h1
      refine ⟨q3, hq3, by simp [hl3], ?_⟩
      rw [hd, hd3]
      simp [Puts.txs]
    · cases h
theorem getTexts_canon {xs : List Int} {a : Nat} {l : List ByteArray} {p : Int} (hb : Byt xs) (h : Plain.getTexts xs (a : Int) = (l, p, true)) : ∃ q : Nat, p = (q : Int) ∧ xs.drop a = Puts.num (l.length : Int) ++ Puts.txs l ++ xs.drop q := by
  unfold Plain.getTexts at h
  split at h
  · rename_i hc
    obtain ⟨n, q, ok, hg⟩ : ∃ n q ok, Plain.getNum xs (a : Int) = (n, q, ok) := ⟨_, _, _, rfl⟩
    rw [hg] at h hc
    simp only at h hc
    obtain ⟨rfl, hc2⟩ := hc
    obtain ⟨q', rfl, hn0, hn9, _, hd⟩ := getNum_canon hb hg
    obtain ⟨m, rfl⟩ : ∃ m : Nat, n = (m : Int) := ⟨n.toNat, by omega⟩
    split at h
    · rename_i l' q2 hr
      simp only [Prod.mk.injEq, and_true] at h
      obtain ⟨rfl, rfl⟩ := h
      obtain ⟨q3, hq3, hl3, hd3⟩ := rd_canon hb _ _ _ _ hr
      refine ⟨q3, hq3, ?_⟩
      have : l'.length = m := by rw [hl3]; rfl
      rw [hd, hd3, this, List.append_assoc]
    · simp at h
  · simp at h

theorem needsOf_names : ∀ l : List Nd, (∀ x ∈ l, x.ok = true) → needsOf (l.map name5) = some l := by
  intro l
  induction l with
  | nil => intro _; rfl
  | cons x r ih =>
    intro h
    simp only [List.map_cons, needsOf]
    rw [pname_name (h x (by simp)), ih (fun y hy => h y (by simp [hy]))]
    rfl
theorem names_needsOf : ∀ (ts : List ByteArray) (l : List Nd), needsOf ts = some l → l.map name5 = ts := by
  intro ts
  induction ts with
  | nil => intro l h; simp [needsOf] at h; subst h; rfl
  | cons t r ih =>
    intro l h
    simp only [needsOf] at h
    split at h
    · rename_i ht
      rw [Option.map_eq_some_iff] at h
      obtain ⟨l2, h1, rfl⟩ := h
      obtain ⟨x, g, hx⟩ : ∃ x g, pname t = (x, g) := ⟨_, _, rfl⟩
      rw [hx] at ht ⊢
      simp only at ht ⊢
      subst ht
      rw [List.map_cons, ih _ h1, (name_pname hx).2]
    · cases h
theorem rise_ok : ∀ l : List Nd, rise l = true → ∀ x ∈ l, x.ok = true := by
  intro l
  induction l with
  | nil => intro _ x hx; cases hx
  | cons n r ih =>
    intro h x hx
    cases r with
    | nil => simp at hx; subst hx; exact h
    | cons m r =>
      have h' : (n.ok && ltT n.path m.path && rise (m :: r)) = true := h
      simp only [Bool.and_eq_true] at h'
      rcases List.mem_cons.1 hx with rfl | hx
      · exact h'.1.1
      · exact ih h'.2 x hx
theorem entry_parts {n : Nd} {l : List Nd} (h : entry5 n l = true) : n.ok = true ∧ l.length ≤ 8 ∧ rise l = true ∧ self5 n l = false := by
  unfold entry5 at h
  simp only [Bool.and_eq_true, decide_eq_true_eq] at h
  exact ⟨h.1.1.2, h.1.2, h.2, by simpa using h.1.1.1⟩

/-- what is read of a text has that text -/
theorem put_get5 {s : ByteArray} {n : Nd} {l : List Nd} (h : get5 s = (n, l, true)) : entry5 n l = true ∧ put5 n l = s := by
  unfold get5 at h
  split at h
  · rename_i hc
    obtain ⟨nm, p, ok, ht⟩ : ∃ nm p ok, Plain.getText (sb s) 0 = (nm, p, ok) := ⟨_, _, _, rfl⟩
    rw [ht] at h hc
    simp only at h hc
    obtain ⟨ts, q, is, hts⟩ : ∃ ts q is, Plain.getTexts (sb s) p = (ts, q, is) := ⟨_, _, _, rfl⟩
    rw [hts] at h hc
    simp only at h hc
    obtain ⟨x, g, hx⟩ : ∃ x g, pname nm = (x, g) := ⟨_, _, rfl⟩
    rw [hx] at h hc
    simp only at h hc
    obtain ⟨rfl, rfl, rfl, hq⟩ := hc
    unfold get5t at h
    split at h
    · rename_i l' hn
      unfold get5e at h
      split at h
      · rename_i he
        simp only [Prod.mk.injEq, and_true] at h
        obtain ⟨rfl, rfl⟩ := h
        refine ⟨he, ?_⟩
        obtain ⟨q1, rfl, _, hd1⟩ := getText_canon (a := 0) (sb_byt s) ht
        obtain ⟨q2, hq2, hd2⟩ := getTexts_canon (sb_byt s) hts
        unfold put5
        rw [if_pos he, names_needsOf _ _ hn, (name_pname hx).2, needsOf_len _ _ hn]
        have h3 : (sb s).drop q2 = [] := List.drop_eq_nil_of_le (by rw [sb_len]; omega)
        rw [h3, List.append_nil] at hd2
        rw [List.drop_zero, hd2, ← List.append_assoc] at hd1
        rw [← hd1, txt_sbv]
      · simp [no5] at h
    · simp [no5] at h
  · simp [no5] at h
/-- an entry comes back of its text -/
theorem get_put5 {n : Nd} {l : List Nd} (h : entry5 n l = true) (hz : ∀ x, x = n ∨ x ∈ l → (name5 x).size ≤ 1000000000) : get5 (put5 n l) = (n, l, true) := by
  obtain ⟨hn, h8, hr, _⟩ := entry_parts h
  have hb : Byt (Puts.tx (name5 n) ++ Puts.num (l.length : Int) ++ Puts.txs (l.map name5)) := ((Puts.tx_byt _).app (Puts.num_byt _)).app (txs_byt5 _)
  have hs : sb (put5 n l) = Puts.tx (name5 n) ++ Puts.num (l.length : Int) ++ Puts.txs (l.map name5) := by unfold put5; rw [if_pos h, sb_txtv hb]
  have g1 := Plain.getText_back [] (Puts.num (l.length : Int) ++ Puts.txs (l.map name5)) (name5 n) (hz n (.inl rfl))
  rw [List.nil_append, ← List.append_assoc, ← hs] at g1
  simp only [List.length_nil, Int.natCast_zero, Int.zero_add] at g1
  have g2 := Plain.getTexts_back (Puts.tx (name5 n)) [] (l.map name5) (by simp; omega) (fun t ht => by
    obtain ⟨x, hx, rfl⟩ := List.mem_map.1 ht
    exact hz x (.inr hx))
  rw [List.append_nil, List.length_map, ← hs] at g2
  unfold get5
  rw [g1]
  simp only
  rw [g2]
  simp only
  rw [pname_name hn]
  simp only
  rw [if_pos ⟨trivial, trivial, trivial, by rw [sb_len]⟩]
  unfold get5t
  rw [needsOf_names l (rise_ok l hr)]
  simp only [get5e]
  rw [if_pos h]

end Go.Proofs.YtbopliahafkecaaGreatDoor.Ent

/- Contracts of the specification's digests: turns, the words of a block, a block, and the whole, as plain functions of natural numbers. -/
namespace Go.Proofs.YtbopliahafkecaaGreatDoor.Sha
open Go.RowKit Go.Proofs.YtbopliahafkecaaGreatDoor.Mem Go.Proofs.YtbopliahafkecaaGreatDoor.Laws Go.Proofs.YtbopliahafkecaaGreatDoor.Bytes
set_option linter.unusedVariables false
set_option linter.unusedSimpArgs false

theorem info3 : (Tryz.prog.info? 3).map (fun i => (i.zero, i.size, i.bytes)) = some (some (.int .i64 0), 1, 8) := by kernel_rfl

/-- a word turned right by n -/
def turn (x n : Nat) : Nat := (x / 2 ^ n ||| x * 2 ^ (32 - n)) % 4294967296

theorem wraps62 (n : Int) (h0 : 0 ≤ n) (h1 : n < 2 ^ 63) : IntKind.i64.wrap n = n := by rw [IntKind.wrap_i64]; omega

theorem or_nat {a b : Nat} (ha : a < 2 ^ 63) (hb : b < 2 ^ 63) : bits .or .i64 (a : Int) (b : Int) = ((a ||| b : Nat) : Int) := (bits_nat .i64 63 (by decide) wraps62 a b ha hb).2
theorem and_nat {a b : Nat} (ha : a < 2 ^ 63) (hb : b < 2 ^ 63) : bits .and .i64 (a : Int) (b : Int) = ((a &&& b : Nat) : Int) := (bits_nat .i64 63 (by decide) wraps62 a b ha hb).1
theorem xor_nat {a b : Nat} (ha : a < 2 ^ 63) (hb : b < 2 ^ 63) : bits .xor .i64 (a : Int) (b : Int) = ((a ^^^ b : Nat) : Int) := by
  have ha' : a % 2 ^ 64 = a := Nat.mod_eq_of_lt (by omega)
  have hb' : b % 2 ^ 64 = b := Nat.mod_eq_of_lt (by omega)
  have e : bits .xor .i64 (a : Int) (b : Int) = IntKind.i64.wrap (((BitVec.ofInt 64 (a : Int) ^^^ BitVec.ofInt 64 (b : Int)).toNat : Nat) : Int) := rfl
  rw [e, BitVec.ofInt_natCast, BitVec.ofInt_natCast, BitVec.toNat_xor, BitVec.toNat_ofNat, BitVec.toNat_ofNat, ha', hb']
  exact wraps62 _ (Int.natCast_nonneg _) (by have := Nat.xor_lt_two_pow ha hb; omega)
theorem mask_nat {a : Nat} (ha : a < 2 ^ 63) : bits .and .i64 (a : Int) 4294967295 = ((a % 4294967296 : Nat) : Int) := by
  have h := and_nat (b := 4294967295) ha (by decide)
  have e : ((4294967295 : Nat) : Int) = 4294967295 := rfl
  rw [e] at h
  rw [h, show (4294967295 : Nat) = 2 ^ 32 - 1 by decide, Nat.and_two_pow_sub_one_eq_mod]

theorem turn_eq (x n : Nat) (hx : x < 4294967296) (hn1 : 1 ≤ n) (hn2 : n ≤ 31) :
    bits .and .i64 (bits .or .i64 ((x : Int) / 2 ^ n) (wrap64 ((x : Int) * 2 ^ (32 - n)))) 4294967295 = ((turn x n : Nat) : Int) := by
  have hp : (2 : Nat) ^ (32 - n) ≤ 2 ^ 31 := Nat.pow_le_pow_right (by decide) (by omega)
  have hxp : x * 2 ^ (32 - n) ≤ 4294967295 * 2 ^ 31 := Nat.mul_le_mul (by omega) hp
  have e1 : (x : Int) / 2 ^ n = ((x / 2 ^ n : Nat) : Int) := by push_cast; rfl
  have e2 : (x : Int) * 2 ^ (32 - n) = ((x * 2 ^ (32 - n) : Nat) : Int) := by push_cast; rfl
  have hd : x / 2 ^ n ≤ x := Nat.div_le_self _ _
  rw [e2, IntWalk.wrap64_in _ (by omega), e1, or_nat (by omega) (by omega), mask_nat (Nat.or_lt_two_pow (by omega) (by omega))]
  rfl

theorem turn_lt (x n : Nat) : turn x n < 4294967296 := Nat.mod_lt _ (by decide)

set_option maxRecDepth 1000000 in
set_option maxHeartbeats 400000 in
theorem turn_spec (w : World) (x n : Nat) (hx : x < 4294967296) (hn1 : 1 ≤ n) (hn2 : n ≤ 31) :
    Calls Tryz.prog 119 #[.int .i64 (x : Int), .int .i64 (n : Int)] w fun e w' => e = .returned (.int .i64 (turn x n : Nat)) ∧ w = w' := by
  go_enter Tryz.func119, Tryz.ntmps119
  go_wp2
  go_ret
  exact ⟨congrArg (fun z => Ending.returned (.int .i64 z)) (turn_eq x n hx hn1 hn2), rfl⟩

theorem turn_at (w : World) (x n : Nat) (k : Int) (hk : k = (n : Int)) (hx : x < 4294967296) (hn1 : 1 ≤ n) (hn2 : n ≤ 31) :
    Calls Tryz.prog 119 #[.int .i64 (x : Int), .int .i64 k] w fun e w' => e = .returned (.int .i64 (turn x n : Nat)) ∧ w = w' := by
  rw [hk]; exact turn_spec w x n hx hn1 hn2

/-- natural numbers as cells -/
def ns (l : List Nat) : List Value := l.map fun n : Nat => Value.int .i64 (n : Int)
theorem ns_len (l : List Nat) : (ns l).length = l.length := by simp [ns]
theorem ns_app (l r : List Nat) : ns (l ++ r) = ns l ++ ns r := by simp [ns]
theorem ns_one (l : List Nat) : ∀ u ∈ ns l, u.oneCell' = true := by
  intro u hu
  obtain ⟨_, _, rfl⟩ := List.mem_map.1 hu
  rfl

theorem Own.emptyN (w : World) (lo : Nat) (h : lo ≤ w.heap.size) : Own (w.alloc (.cells #[] 3)) lo (w.alloc (.cells #[] 3)).heap.size 3 (.slice (some ⟨w.heap.size, 0, none⟩) 0 0) (ns []) :=
  Own.of (World.ownsRow_lit w #[] 0 h (Nat.zero_le _) rfl)

/-- the byte at j, and the word of the four bytes from 4 i on -/
def nb (ys : List Int) (j : Nat) : Nat := (ys.getD j 0).toNat
def wd (ys : List Int) (i : Nat) : Nat := ((nb ys (4 * i) * 16777216 ||| nb ys (4 * i + 1) * 65536) ||| nb ys (4 * i + 2) * 256) ||| nb ys (4 * i + 3)

theorem nb_lt {ys : List Int} (h : Byt ys) (j : Nat) : nb ys j < 256 := by
  unfold nb
  by_cases hj : j < ys.length
  · have := h (ys[j]) (List.getElem_mem hj)
    simp [List.getD, hj]
    omega
  · simp [List.getD, show ys.length ≤ j by omega]
theorem wd_bits (a b c d : Nat) (ha : a < 256) (hb : b < 256) (hc : c < 256) (hd : d < 256) :
    bits .or .i64 (bits .or .i64 (bits .or .i64 ((a : Int) * 16777216) ((b : Int) * 65536)) ((c : Int) * 256)) (d : Int) = ((((a * 16777216 ||| b * 65536) ||| c * 256) ||| d : Nat) : Int) := by
  have e1 : (a : Int) * 16777216 = ((a * 16777216 : Nat) : Int) := by omega
  have e2 : (b : Int) * 65536 = ((b * 65536 : Nat) : Int) := by omega
  have e3 : (c : Int) * 256 = ((c * 256 : Nat) : Int) := by omega
  have l1 : a * 16777216 ||| b * 65536 < 2 ^ 32 := Nat.or_lt_two_pow (by omega) (by omega)
  have l2 : (a * 16777216 ||| b * 65536) ||| c * 256 < 2 ^ 32 := Nat.or_lt_two_pow l1 (by omega)
  rw [e1, e2, e3, or_nat (by omega) (by omega), or_nat (by omega) (by omega), or_nat (by omega) (by omega)]

theorem wd_lt {ys : List Int} (h : Byt ys) (i : Nat) : wd ys i < 4294967296 := by
  unfold wd
  have h0 := nb_lt h (4 * i)
  have h1 := nb_lt h (4 * i + 1)
  have h2 := nb_lt h (4 * i + 2)
  have h3 := nb_lt h (4 * i + 3)
  have l1 : nb ys (4 * i) * 16777216 ||| nb ys (4 * i + 1) * 65536 < 2 ^ 32 := Nat.or_lt_two_pow (by omega) (by omega)
  have l2 := Nat.or_lt_two_pow l1 (show nb ys (4 * i + 2) * 256 < 2 ^ 32 by omega)
  exact Nat.or_lt_two_pow l2 (by omega)

theorem byte_cell {w : World} {ys : List Int} {b off : Nat} (hby : Byt ys) (h : ∀ j, j < ys.length → w.cell? ⟨b, off + j, none⟩ = (bs ys)[j]?) (j : Nat) (hj : j < ys.length) : w.cell? ⟨b, off + j, none⟩ = some (.int .u8 (nb ys j : Nat)) := by
  rw [h j hj, bs_get]
  have hb := hby (ys[j]) (List.getElem_mem hj)
  simp [nb, List.getD, hj]
  omega

def s0w (x : Nat) : Nat := (turn x 7 ^^^ turn x 18) ^^^ x / 8
def s1w (x : Nat) : Nat := (turn x 17 ^^^ turn x 19) ^^^ x / 1024
/-- the next word behind 16 or more -/
def nxt (l : List Nat) : Nat := (l.getD (l.length - 16) 0 + s0w (l.getD (l.length - 15) 0) + l.getD (l.length - 7) 0 + s1w (l.getD (l.length - 2) 0)) % 4294967296
def ext : Nat → List Nat → List Nat
  | 0, l => l
  | n + 1, l => ext n (l ++ [nxt l])
/-- the 64 words of a block -/
def words (ys : List Int) : List Nat := ext 48 ((List.range 16).map (wd ys))

theorem s0w_lt {x : Nat} (h : x < 4294967296) : s0w x < 4294967296 := by
  unfold s0w
  have h1 : turn x 7 ^^^ turn x 18 < 2 ^ 32 := Nat.xor_lt_two_pow (turn_lt _ _) (turn_lt _ _)
  exact Nat.xor_lt_two_pow h1 (by omega)
theorem s1w_lt {x : Nat} (h : x < 4294967296) : s1w x < 4294967296 := by
  unfold s1w
  have h1 : turn x 17 ^^^ turn x 19 < 2 ^ 32 := Nat.xor_lt_two_pow (turn_lt _ _) (turn_lt _ _)
  exact Nat.xor_lt_two_pow h1 (by omega)
theorem s0w_bits {x : Nat} (h : x < 4294967296) : bits .xor .i64 (bits .xor .i64 ((turn x 7 : Nat) : Int) ((turn x 18 : Nat) : Int)) ((x : Int) / 8) = ((s0w x : Nat) : Int) := by
  have t1 := turn_lt x 7
  have t2 := turn_lt x 18
  have h1 : turn x 7 ^^^ turn x 18 < 2 ^ 32 := Nat.xor_lt_two_pow t1 t2
  have e : (x : Int) / 8 = ((x / 8 : Nat) : Int) := by omega
  rw [e, xor_nat (by omega) (by omega), xor_nat (by omega) (by omega)]
  rfl
theorem s1w_bits {x : Nat} (h : x < 4294967296) : bits .xor .i64 (bits .xor .i64 ((turn x 17 : Nat) : Int) ((turn x 19 : Nat) : Int)) ((x : Int) / 1024) = ((s1w x : Nat) : Int) := by
  have t1 := turn_lt x 17
  have t2 := turn_lt x 19
  have h1 : turn x 17 ^^^ turn x 19 < 2 ^ 32 := Nat.xor_lt_two_pow t1 t2
  have e : (x : Int) / 1024 = ((x / 1024 : Nat) : Int) := by omega
  rw [e, xor_nat (by omega) (by omega), xor_nat (by omega) (by omega)]
  rfl

theorem Own.form {w : World} {lo hi : Nat} {e : TypeId} {v : Value} {cs : List Value} (h : Own w lo hi e v cs) (hp : 0 < cs.length) :
    ∃ g cap, v = .slice (some ⟨g, 0, none⟩) cs.length cap ∧ lo ≤ g ∧ g < hi ∧ cs.length ≤ cap ∧ ∀ j, j < cs.length → w.cell? ⟨g, j, none⟩ = cs[j]? := by
  have hsl := h.sl
  obtain ⟨⟨h1, h2⟩, h3⟩ := h
  rcases h2 with ⟨rfl, h0⟩ | ⟨g, cap, cur, rfl, hb, hg, hnc, hcm, hcs, ht⟩
  · omega
  · refine ⟨g, cap, rfl, hb, h3 g rfl, hnc, ?_⟩
    obtain ⟨ao, cap', he, _, _, hr⟩ := hsl
    obtain ⟨b, off, hao, hcell⟩ := hr hp
    simp only [Value.slice.injEq] at he
    rw [← he.1] at hao
    simp only [Option.some.injEq, Addr.mk.injEq, and_true] at hao
    obtain ⟨rfl, rfl⟩ := hao
    intro j hj
    have := hcell j hj
    rw [Nat.zero_add] at this
    exact this
theorem ns_cell {w : World} {g : Nat} {L : List Nat} (h : ∀ j, j < (ns L).length → w.cell? ⟨g, j, none⟩ = (ns L)[j]?) (j : Nat) (hj : j < L.length) : w.cell? ⟨g, j, none⟩ = some (.int .i64 ((L.getD j 0 : Nat) : Int)) := by
  rw [h j (by rw [ns_len]; exact hj)]
  simp [ns, List.getD, hj]
theorem getD_lt {L : List Nat} (h : ∀ x ∈ L, x < 4294967296) (j : Nat) : L.getD j 0 < 4294967296 := by
  by_cases hj : j < L.length
  · simp [List.getD, hj]; exact h _ (List.getElem_mem hj)
  · simp [List.getD, show L.length ≤ j by omega]

theorem Sl.oneD (w : World) (u : Value) (t : TypeId) : Sl ((w.alloc (.cells #[u] t)).drew) (.slice (some ⟨w.heap.size, 0, none⟩) 1 1) [u] := Sl.one w u t
theorem one_int (x : Int) : ∀ u ∈ [Value.int .i64 x], u.oneCell' = true := by
  intro u hu
  rw [List.mem_singleton] at hu
  rw [hu]
  rfl

set_option maxRecDepth 1000000 in
set_option maxHeartbeats 2000000 in
theorem words_spec (w : World) (b off : Nat) (cap : Nat) (ys : List Int) (hy : ys.length = 64) (hcap : 64 ≤ cap) (hby : Byt ys) (hcells : ∀ j, j < ys.length → w.cell? ⟨b, off + j, none⟩ = (bs ys)[j]?) :
    Calls Tryz.prog 118 #[.slice (some ⟨b, off, none⟩) 64 cap] w fun e w' => ∃ v', e = .returned v' ∧ Own w' w.heap.size w'.heap.size 3 v' (ns (words ys)) ∧ Below w.heap.size w w' := by
  obtain ⟨i0, hi, hz0, hz1, hz2⟩ := info_parts info3
  have hbl : b < w.heap.size := World.block_lt_of_cell? w ⟨b, off + 0, none⟩ (byte_cell hby hcells 0 (by omega))
  have ho0 := Own.emptyN w w.heap.size (Nat.le_refl _)
  have hb0 : Below w.heap.size w (w.alloc (.cells #[] 3)) := (Below.refl _ _).alloc (Nat.le_refl _) _
  go_enter Tryz.func118, Tryz.ntmps118
  go_wp2
  go_loopw [3, 4] (fun o i wr => ∃ k : Nat, k ≤ 16 ∧ i = .int .i64 k ∧ Own wr w.heap.size wr.heap.size 3 o (ns ((List.range k).map (wd ys))) ∧ Below w.heap.size w wr) (fun _ i _ => 16 - (intOf i).toNat)
  case atStart => exact ⟨0, Nat.zero_le _, rfl, ho0, hb0⟩
  case round =>
    obtain ⟨k, hk, rfl, ho, hb⟩ := hrel
    have hsz := hb.size
    clear ho0 hb0
    by_cases hlt : k < 16
    · have cell : ∀ j, j < 64 → wr.cell? ⟨b, off + j, none⟩ = some (.int .u8 (nb ys j : Nat)) := fun j hj => by
        rw [hb.cell (p := ⟨b, off + j, none⟩) hbl]; exact byte_cell hby hcells j (by omega)
      have k0 := cell (4 * k) (by omega)
      have k1 := cell (4 * k + 1) (by omega)
      have k2 := cell (4 * k + 2) (by omega)
      have k3 := cell (4 * k + 3) (by omega)
      have n0 := nb_lt hby (4 * k)
      have n1 := nb_lt hby (4 * k + 1)
      have n2 := nb_lt hby (4 * k + 2)
      have n3 := nb_lt hby (4 * k + 3)
      obtain ⟨q0, e0⟩ : ∃ q, nb ys (4 * k) = q := ⟨_, rfl⟩
      obtain ⟨q1, e1⟩ : ∃ q, nb ys (4 * k + 1) = q := ⟨_, rfl⟩
      obtain ⟨q2, e2⟩ : ∃ q, nb ys (4 * k + 2) = q := ⟨_, rfl⟩
      obtain ⟨q3, e3⟩ : ∃ q, nb ys (4 * k + 3) = q := ⟨_, rfl⟩
      have HW : Hid (wd ys k = (((q0 * 16777216 ||| q1 * 65536) ||| q2 * 256) ||| q3)) := by show _ = _; unfold wd; rw [e0, e1, e2, e3]
      rw [e0] at k0 n0
      rw [e1] at k1 n1
      rw [e2] at k2 n2
      rw [e3] at k3 n3
      clear e0 e1 e2 e3
      have hbits := wd_bits q0 q1 q2 q3 n0 n1 n2 n3
      have hl : (ns ((List.range k).map (wd ys))).length = k := by rw [ns_len]; simp
      have c2 : (ns ((List.range k).map (wd ys))).length + 1 ≤ maxLen := by rw [hl]; unfold maxLen; omega
      have c3 : ((ns ((List.range k).map (wd ys))).length + 1) * 8 ≤ 140737488355328 := by rw [hl]; omega
      have c4 : ∀ o, w.heap.size ≤ ((wr.alloc o).drew).heap.size := fun o => by simp; omega
      have ho' : ∀ o, Own ((wr.alloc o).drew) w.heap.size ((wr.alloc o).drew).heap.size 3 _ (ns ((List.range k).map (wd ys))) := fun o => Own.alloc ho o
      have z0 : (0 : Int) ≤ (k : Int) := by omega
      have z1 : (k : Int) < 16 := by omega
      have lbr : b < wr.heap.size := by omega
      have t0 : (4 * (k : Int)).toNat = 4 * k := by omega
      have t1 : (4 * (k : Int) + 1).toNat = 4 * k + 1 := by omega
      have t2 : (4 * (k : Int) + 2).toNat = 4 * k + 2 := by omega
      have t3 : (4 * (k : Int) + 3).toNat = 4 * k + 3 := by omega
      rw [← t0] at k0
      rw [← t1] at k1
      rw [← t2] at k2
      rw [← t3] at k3
      clear t0 t1 t2 t3
      have a0 : IntKind.i64.wrap (4 * (k : Int)) = 4 * (k : Int) := wraps62 _ (by omega) (by omega)
      have a1 : IntKind.i64.wrap (4 * (k : Int) + 1) = 4 * (k : Int) + 1 := wraps62 _ (by omega) (by omega)
      have a2 : IntKind.i64.wrap (4 * (k : Int) + 2) = 4 * (k : Int) + 2 := wraps62 _ (by omega) (by omega)
      have a3 : IntKind.i64.wrap (4 * (k : Int) + 3) = 4 * (k : Int) + 3 := wraps62 _ (by omega) (by omega)
      have p0 : (0 : Int) ≤ 4 * (k : Int) := by omega
      have p1 : (0 : Int) ≤ 4 * (k : Int) + 1 := by omega
      have p2 : (0 : Int) ≤ 4 * (k : Int) + 2 := by omega
      have p3 : (0 : Int) ≤ 4 * (k : Int) + 3 := by omega
      have r0 : 4 * (k : Int) < 64 := by omega
      have r1 : 4 * (k : Int) + 1 < 64 := by omega
      have r2 : 4 * (k : Int) + 2 < 64 := by omega
      have r3 : 4 * (k : Int) + 3 < 64 := by omega
      clear cell hcells hl
      go_wp2
      go_region_held3 (fun w' => w'.cell? ⟨b, off + (4 * (k : Int)).toNat, none⟩ = some (.int .u8 (q0 : Int)) ∧ w'.cell? ⟨b, off + (4 * (k : Int) + 1).toNat, none⟩ = some (.int .u8 (q1 : Int)) ∧ w'.cell? ⟨b, off + (4 * (k : Int) + 2).toNat, none⟩ = some (.int .u8 (q2 : Int)) ∧ w'.cell? ⟨b, off + (4 * (k : Int) + 3).toNat, none⟩ = some (.int .u8 (q3 : Int)))
        (first | go_keep | (go_split_ands; refine ⟨?_, ?_, ?_, ?_⟩ <;> (rw [hb3.cell (by exact hbl)]; assumption)))
        ((refine step_app (by rfl) (.tmp 15) (.tmp 49) 66 (by rfl) 3 i0 (.int .i64 0) 8 Tryz.underlying66 hi hz0 hz1 hz2 rfl w.heap.size _ _ (by rfl) (ho' _) _ (by rfl) _ (Sl.oneD wr _ _) (one_int _) c2 c3 (c4 _) ?_; intro v3 w3 ho3 hb3))
      have u0 : IntKind.i64.wrap (q0 : Int) = (q0 : Int) := wraps62 _ (by omega) (by omega)
      have u1 : IntKind.i64.wrap (q1 : Int) = (q1 : Int) := wraps62 _ (by omega) (by omega)
      have u2 : IntKind.i64.wrap (q2 : Int) = (q2 : Int) := wraps62 _ (by omega) (by omega)
      have u3 : IntKind.i64.wrap (q3 : Int) = (q3 : Int) := wraps62 _ (by omega) (by omega)
      have y0 : IntKind.i64.wrap ((q0 : Int) * 16777216) = (q0 : Int) * 16777216 := wraps62 _ (by omega) (by omega)
      have y1 : IntKind.i64.wrap ((q1 : Int) * 65536) = (q1 : Int) * 65536 := wraps62 _ (by omega) (by omega)
      have y2 : IntKind.i64.wrap ((q2 : Int) * 256) = (q2 : Int) * 256 := wraps62 _ (by omega) (by omega)
      rw [u0, u1, u2, u3, y0, y1, y2, hbits, ← HW.out] at ho3
      have hb4 : Below w.heap.size w w3 := (Below.drew (hb.alloc hsz _)).trans hb3
      have ho4 : Own w3 w.heap.size w3.heap.size 3 v3 (ns ((List.range (k + 1)).map (wd ys))) := by
        rw [List.range_succ, List.map_append, ns_app]; exact ho3
      clear ho3 hb3 ho' c2 c3 c4 hbits u0 u1 u2 u3 y0 y1 y2 a0 a1 a2 a3 p0 p1 p2 p3 r0 r1 r2 r3
      go_wp2
      go_roundw
      case rel => exact ⟨k + 1, by omega, by go_num, ho4, hb4⟩
      case measure => simp [intOf]; omega
    · have hk16 : k = 16 := by omega
      subst hk16
      have hc16 : ((16 : Nat) : Int) = 16 := rfl
      simp only [hc16]
      obtain ⟨W, hW⟩ : ∃ W, W = (List.range 16).map (wd ys) := ⟨_, rfl⟩
      have hWl : W.length = 16 := by rw [hW]; simp
      have hWb : ∀ x ∈ W, x < 4294967296 := by
        rw [hW]
        intro x hx
        obtain ⟨j, _, rfl⟩ := List.mem_map.1 hx
        exact wd_lt hby j
      have HWs : Hid (W.length = 16 ∧ words ys = ext 48 W) := ⟨hWl, by rw [hW]; rfl⟩
      rw [← hW] at ho
      clear hW hWl hcells
      go_wp2
      go_loopw [3, 5] (fun o i wr => ∃ (i' : Nat) (L : List Nat), 16 ≤ i' ∧ i' ≤ 64 ∧ i = .int .i64 (i' : Int) ∧ L.length = i' ∧ (∀ x ∈ L, x < 4294967296) ∧ ext (64 - i') L = ext 48 W ∧ Own wr w.heap.size wr.heap.size 3 o (ns L) ∧ Below w.heap.size w wr) (fun _ i _ => 64 - (intOf i).toNat)
      case atStart => exact ⟨16, W, by omega, by omega, rfl, HWs.out.1, hWb, rfl, ho, hb⟩
      case round =>
        obtain ⟨i, L, hi1, hi2, rfl, hLl, hLb, hE0, ho5, hb5⟩ := hrel
        have HL : Hid (L.length = i ∧ (∀ x ∈ L, x < 4294967296) ∧ ext (64 - i) L = ext 48 W) := ⟨hLl, hLb, hE0⟩
        have hsz5 := hb5.size
        clear ho hb hsz hWb hE0
        by_cases hlt5 : i < 64
        · obtain ⟨g, cap5, rfl, hg1, hg2, hcap5, hcl⟩ := Own.form ho5 (by rw [ns_len]; omega)
          rw [ns_len, hLl] at hcap5
          have k16 := ns_cell hcl (i - 16) (by omega)
          have k15 := ns_cell hcl (i - 15) (by omega)
          have k7 := ns_cell hcl (i - 7) (by omega)
          have k2 := ns_cell hcl (i - 2) (by omega)
          rw [ns_len, hLl] at ho5
          rw [ns_len, hLl]
          obtain ⟨a16, e16⟩ : ∃ a, L.getD (i - 16) 0 = a := ⟨_, rfl⟩
          obtain ⟨a15, e15⟩ : ∃ a, L.getD (i - 15) 0 = a := ⟨_, rfl⟩
          obtain ⟨a7, e7⟩ : ∃ a, L.getD (i - 7) 0 = a := ⟨_, rfl⟩
          obtain ⟨a2, e2⟩ : ∃ a, L.getD (i - 2) 0 = a := ⟨_, rfl⟩
          have l16 : a16 < 4294967296 := by rw [← e16]; exact getD_lt hLb _
          have l15 : a15 < 4294967296 := by rw [← e15]; exact getD_lt hLb _
          have l7 : a7 < 4294967296 := by rw [← e7]; exact getD_lt hLb _
          have l2 : a2 < 4294967296 := by rw [← e2]; exact getD_lt hLb _
          have HN : Hid (nxt L = (a16 + s0w a15 + a7 + s1w a2) % 4294967296) := by show _ = _; unfold nxt; rw [hLl, e16, e15, e7, e2]
          rw [e16] at k16
          rw [e15] at k15
          rw [e7] at k7
          rw [e2] at k2
          have x1 := s0w_bits l15
          have x2 := s1w_bits l2
          have m1 := s0w_lt l15
          have m2 := s1w_lt l2
          clear hLl hLb e16 e15 e7 e2 hcl
          have q7 := turn_at wr a15 7 7 rfl l15 (by omega) (by omega)
          have q18 := turn_at wr a15 18 18 rfl l15 (by omega) (by omega)
          have q17 := turn_at wr a2 17 17 rfl l2 (by omega) (by omega)
          have q19 := turn_at wr a2 19 19 rfl l2 (by omega) (by omega)
          go_wp2_with fail
          refine q7.mono ?_
          rintro e w' ⟨rfl, rfl⟩
          go_wp2_with fail
          refine q18.mono ?_
          rintro e w' ⟨rfl, rfl⟩
          go_wp2_with fail
          refine q17.mono ?_
          rintro e w' ⟨rfl, rfl⟩
          go_wp2_with fail
          refine q19.mono ?_
          rintro e w' ⟨rfl, rfl⟩
          clear q7 q18 q17 q19
          have hl : (ns L).length = i := by rw [ns_len]; exact HL.out.1
          have c2 : (ns L).length + 1 ≤ maxLen := by rw [hl]; unfold maxLen; omega
          have c3 : ((ns L).length + 1) * 8 ≤ 140737488355328 := by rw [hl]; omega
          have c4 : ∀ o, w.heap.size ≤ (wr.drew.alloc o).heap.size := fun o => by simp; omega
          have ho' : ∀ o, Own (wr.drew.alloc o) w.heap.size (wr.drew.alloc o).heap.size 3 _ (ns L) := fun o => Own.alloc (w := wr.drew) ho5 o
          have hsum := mask_nat (a := a16 + s0w a15 + a7 + s1w a2) (by omega)
          have esum : ((a16 + s0w a15 + a7 + s1w a2 : Nat) : Int) = (a16 : Int) + (s0w a15 : Int) + (a7 : Int) + (s1w a2 : Int) := by omega
          rw [esum] at hsum
          obtain ⟨nx, hnx⟩ : ∃ z, z = (a16 + s0w a15 + a7 + s1w a2) % 4294967296 := ⟨_, rfl⟩
          rw [← hnx] at hsum
          have HX : Hid (nxt L = nx) := by show _ = _; rw [HN.out, hnx]
          have hnxb : nx < 4294967296 := by rw [hnx]; exact Nat.mod_lt _ (by decide)
          have d16 : IntKind.i64.wrap ((i : Int) - 16) = (i : Int) - 16 := wraps62 _ (by omega) (by omega)
          have d7 : IntKind.i64.wrap ((i : Int) - 7) = (i : Int) - 7 := wraps62 _ (by omega) (by omega)
          have f16 : (16 : Int) ≤ (i : Int) := by omega
          have f7 : (7 : Int) ≤ (i : Int) := by omega
          have j16 : (i : Int) - 16 < (i : Int) := by omega
          have j7 : (i : Int) - 7 < (i : Int) := by omega
          have t16 : ((i : Int) - 16).toNat = i - 16 := by omega
          have t7 : ((i : Int) - 7).toNat = i - 7 := by omega
          clear hl esum hnx HN
          go_wp2
          clear x1 x2 k15 k2
          go_region_law (first | (refine step_app rfl (.tmp 81) (.tmp 98) 66 rfl 3 i0 (.int .i64 0) 8 Tryz.underlying66 hi hz0 hz1 hz2 rfl w.heap.size _ _ rfl (ho' _) _ rfl _ (Sl.one wr.drew _ _) (one_int _) c2 c3 (c4 _) ?_; intro v6 w6 ho6 hb6))
          all_goals
            have y1 : IntKind.i64.wrap ((a16 : Int) + (s0w a15 : Int)) = (a16 : Int) + (s0w a15 : Int) := wraps62 _ (by omega) (by omega)
            have y2 : IntKind.i64.wrap ((a16 : Int) + (s0w a15 : Int) + (a7 : Int)) = (a16 : Int) + (s0w a15 : Int) + (a7 : Int) := wraps62 _ (by omega) (by omega)
            have y3 : IntKind.i64.wrap ((a16 : Int) + (s0w a15 : Int) + (a7 : Int) + (s1w a2 : Int)) = (a16 : Int) + (s0w a15 : Int) + (a7 : Int) + (s1w a2 : Int) := wraps62 _ (by omega) (by omega)
            rw [y1, y2, y3, hsum, ← HX.out] at ho6
            have hb7 : Below w.heap.size w w6 := (Below.alloc (w := wr.drew) (Below.drew hb5) hsz5 _).trans hb6
            have ho7 : Own w6 w.heap.size w6.heap.size 3 v6 (ns (L ++ [nxt L])) := by rw [ns_app]; exact ho6
            have HM : Hid ((L ++ [nxt L]).length = i + 1 ∧ (∀ x ∈ L ++ [nxt L], x < 4294967296) ∧ ext (64 - (i + 1)) (L ++ [nxt L]) = ext 48 W) := by
              refine ⟨by rw [List.length_append, HL.out.1]; rfl, fun x hx => ?_, ?_⟩
              · rcases List.mem_append.1 hx with hx | hx
                · exact HL.out.2.1 x hx
                · rw [List.mem_singleton] at hx; rw [hx, HX.out]; exact hnxb
              · have h1 := HL.out.2.2
                rw [show 64 - i = (64 - (i + 1)) + 1 by omega] at h1
                exact h1
            clear ho6 hb6 ho' c2 c3 c4 hsum d16 d7 j16 j7 t16 t7 y1 y2 y3 k16 k7
            go_wp2
            go_roundw
            case rel => first | exact ⟨i + 1, L ++ [nxt L], by omega, by omega, by go_num, HM.out.1, HM.out.2.1, HM.out.2.2, ho7, hb7⟩ | ((repeat apply Exists.intro); exact ⟨⟨i + 1, L ++ [nxt L], by omega, by omega, by go_num, HM.out.1, HM.out.2.1, HM.out.2.2, ho7, hb7⟩, rfl⟩)
            case measure => simp [intOf]; omega
        · go_wp2
          go_ret
          have h1 := HL.out.2.2
          rw [show 64 - i = 0 by omega] at h1
          rw [HWs.out.2, ← h1]
          exact ⟨_, rfl, ho5, hb5⟩

end Go.Proofs.YtbopliahafkecaaGreatDoor.Sha

/- Contract of the specification's block: 64 rounds over the words, and the sums with what was before. -/
namespace Go.Proofs.YtbopliahafkecaaGreatDoor.Sha
open Go.RowKit Go.Proofs.YtbopliahafkecaaGreatDoor.Mem Go.Proofs.YtbopliahafkecaaGreatDoor.Laws Go.Proofs.YtbopliahafkecaaGreatDoor.Bytes
set_option linter.unusedVariables false
set_option linter.unusedSimpArgs false

def big1 (e : Nat) : Nat := (turn e 6 ^^^ turn e 11) ^^^ turn e 25
def big0 (a : Nat) : Nat := (turn a 2 ^^^ turn a 13) ^^^ turn a 22
def ch (e f g : Nat) : Nat := (e &&& f) ^^^ ((4294967295 ^^^ e) &&& g)
def maj (a b c : Nat) : Nat := ((a &&& b) ^^^ (a &&& c)) ^^^ (b &&& c)
def t1 (e f g h k x : Nat) : Nat := h + big1 e + ch e f g + k + x
def t2 (a b c : Nat) : Nat := big0 a + maj a b c
def rnd8 (a b c d e f g h k x : Nat) : List Nat := [(t1 e f g h k x + t2 a b c) % 4294967296, a, b, c, (d + t1 e f g h k x) % 4294967296, e, f, g]
def rnds : List Nat → List Nat → List Nat → List Nat
  | k :: ks, x :: xs, [a, b, c, d, e, f, g, h] => rnds ks xs (rnd8 a b c d e f g h k x)
  | _, _, v => v
/-- a block's eight words out of those before -/
def blk (H : List Nat) (ys : List Int) (K : List Nat) : List Nat := List.zipWith (fun x y => (x + y) % 4294967296) (rnds K (words ys) H) H

theorem xl {a b : Nat} (ha : a < 4294967296) (hb : b < 4294967296) : a ^^^ b < 4294967296 := Nat.xor_lt_two_pow (n := 32) ha hb
theorem al {a b : Nat} (hb : b < 4294967296) : a &&& b < 4294967296 := Nat.lt_of_le_of_lt Nat.and_le_right hb
theorem big1_lt (e : Nat) : big1 e < 4294967296 := xl (xl (turn_lt _ _) (turn_lt _ _)) (turn_lt _ _)
theorem big0_lt (a : Nat) : big0 a < 4294967296 := xl (xl (turn_lt _ _) (turn_lt _ _)) (turn_lt _ _)
theorem ch_lt {e f g : Nat} (hf : f < 4294967296) (hg : g < 4294967296) : ch e f g < 4294967296 := xl (al hf) (al hg)
theorem maj_lt {a b c : Nat} (hb : b < 4294967296) (hc : c < 4294967296) : maj a b c < 4294967296 := xl (xl (al hb) (al hc)) (al hc)

theorem xb {a b : Nat} (ha : a < 4294967296) (hb : b < 4294967296) : bits .xor .i64 (a : Int) (b : Int) = ((a ^^^ b : Nat) : Int) := xor_nat (by omega) (by omega)
theorem ab {a b : Nat} (ha : a < 4294967296) (hb : b < 4294967296) : bits .and .i64 (a : Int) (b : Int) = ((a &&& b : Nat) : Int) := and_nat (by omega) (by omega)
theorem big1_bits (e : Nat) : bits .xor .i64 (bits .xor .i64 ((turn e 6 : Nat) : Int) ((turn e 11 : Nat) : Int)) ((turn e 25 : Nat) : Int) = ((big1 e : Nat) : Int) := by
  rw [xb (turn_lt _ _) (turn_lt _ _), xb (xl (turn_lt _ _) (turn_lt _ _)) (turn_lt _ _)]; rfl
theorem big0_bits (a : Nat) : bits .xor .i64 (bits .xor .i64 ((turn a 2 : Nat) : Int) ((turn a 13 : Nat) : Int)) ((turn a 22 : Nat) : Int) = ((big0 a : Nat) : Int) := by
  rw [xb (turn_lt _ _) (turn_lt _ _), xb (xl (turn_lt _ _) (turn_lt _ _)) (turn_lt _ _)]; rfl
theorem ch_bits {e f g : Nat} (he : e < 4294967296) (hf : f < 4294967296) (hg : g < 4294967296) : bits .xor .i64 (bits .and .i64 (e : Int) (f : Int)) (bits .and .i64 (bits .xor .i64 4294967295 (e : Int)) (g : Int)) = ((ch e f g : Nat) : Int) := by
  have e0 : (4294967295 : Int) = ((4294967295 : Nat) : Int) := rfl
  rw [e0, xb (by omega) he, ab he hf, ab (xl (by omega) he) hg, xb (al hf) (al hg)]; rfl
theorem maj_bits {a b c : Nat} (ha : a < 4294967296) (hb : b < 4294967296) (hc : c < 4294967296) : bits .xor .i64 (bits .xor .i64 (bits .and .i64 (a : Int) (b : Int)) (bits .and .i64 (a : Int) (c : Int))) (bits .and .i64 (b : Int) (c : Int)) = ((maj a b c : Nat) : Int) := by
  rw [ab ha hb, ab ha hc, ab hb hc, xb (al hb) (al hc), xb (xl (al hb) (al hc)) (al hc)]; rfl

/-- the cells of eight words -/
def At8 (w : World) (g : Nat) (a b c d e f q h : Nat) : Prop :=
  w.cell? ⟨g, 0, none⟩ = some (.int .i64 (a : Int)) ∧ w.cell? ⟨g, 1, none⟩ = some (.int .i64 (b : Int)) ∧ w.cell? ⟨g, 2, none⟩ = some (.int .i64 (c : Int)) ∧ w.cell? ⟨g, 3, none⟩ = some (.int .i64 (d : Int)) ∧
  w.cell? ⟨g, 4, none⟩ = some (.int .i64 (e : Int)) ∧ w.cell? ⟨g, 5, none⟩ = some (.int .i64 (f : Int)) ∧ w.cell? ⟨g, 6, none⟩ = some (.int .i64 (q : Int)) ∧ w.cell? ⟨g, 7, none⟩ = some (.int .i64 (h : Int))

theorem at8 {w : World} {g : Nat} {a b c d e f q h : Nat} (hc : ∀ j, j < (ns [a, b, c, d, e, f, q, h]).length → w.cell? ⟨g, j, none⟩ = (ns [a, b, c, d, e, f, q, h])[j]?) : At8 w g a b c d e f q h := by
  refine ⟨?_, ?_, ?_, ?_, ?_, ?_, ?_, ?_⟩
  · exact hc 0 (by simp [ns])
  · exact hc 1 (by simp [ns])
  · exact hc 2 (by simp [ns])
  · exact hc 3 (by simp [ns])
  · exact hc 4 (by simp [ns])
  · exact hc 5 (by simp [ns])
  · exact hc 6 (by simp [ns])
  · exact hc 7 (by simp [ns])

/-- ONE ROUND, as the walk meets it: what the new eight words come to. -/
theorem rnd_own {W : World} {lo : Nat} {a b c d e f q h k x : Nat} {z0 z4 : Int} (h0 : z0 = (((t1 e f q h k x + t2 a b c) % 4294967296 : Nat) : Int)) (h4 : z4 = (((d + t1 e f q h k x) % 4294967296 : Nat) : Int)) (hlo : lo ≤ W.heap.size) :
    Own (W.alloc (.cells #[.int .i64 z0, .int .i64 (a : Int), .int .i64 (b : Int), .int .i64 (c : Int), .int .i64 z4, .int .i64 (e : Int), .int .i64 (f : Int), .int .i64 (q : Int)] 3)) lo
      (W.alloc (.cells #[.int .i64 z0, .int .i64 (a : Int), .int .i64 (b : Int), .int .i64 (c : Int), .int .i64 z4, .int .i64 (e : Int), .int .i64 (f : Int), .int .i64 (q : Int)] 3)).heap.size 3 (.slice (some ⟨W.heap.size, 0, none⟩) 8 8) (ns (rnd8 a b c d e f q h k x)) := by
  subst h0
  subst h4
  exact Own.of (World.ownsRow_lit W _ 8 hlo (by unfold maxLen; omega) rfl)

theorem kcell {w : World} {b off : Nat} {L : List Nat} (h : ∀ j, j < (ns L).length → w.cell? ⟨b, off + j, none⟩ = (ns L)[j]?) (j : Nat) (hj : j < L.length) : w.cell? ⟨b, off + j, none⟩ = some (.int .i64 ((L.getD j 0 : Nat) : Int)) := by
  rw [h j (by rw [ns_len]; exact hj)]
  simp [ns, List.getD, hj]
theorem drop_nat {L : List Nat} {k : Nat} (h : k < L.length) : L.drop k = L.getD k 0 :: L.drop (k + 1) := by
  rw [List.drop_eq_getElem_cons h]; simp [List.getD, h]

theorem ext_len (n : Nat) : ∀ l, (ext n l).length = l.length + n := by
  induction n with
  | zero => intro l; rfl
  | succ n ih => intro l; rw [ext, ih]; simp; omega
theorem words_len (ys : List Int) : (words ys).length = 64 := by unfold words; rw [ext_len]; simp
theorem ext_lt (n : Nat) : ∀ l, (∀ x ∈ l, x < 4294967296) → ∀ x ∈ ext n l, x < 4294967296 := by
  induction n with
  | zero => intro l h; exact h
  | succ n ih =>
    intro l h
    rw [ext]
    refine ih _ (fun x hx => ?_)
    rcases List.mem_append.1 hx with hx | hx
    · exact h x hx
    · rw [List.mem_singleton] at hx; rw [hx]; exact Nat.mod_lt _ (by decide)
theorem words_lt {ys : List Int} (h : Byt ys) : ∀ x ∈ words ys, x < 4294967296 := by
  unfold words
  refine ext_lt 48 _ (fun x hx => ?_)
  obtain ⟨j, _, rfl⟩ := List.mem_map.1 hx
  exact wd_lt h j

theorem zip_step (Z H : List Nat) (m : Nat) (hZ : Z.length = 8) (hH : H.length = 8) (hm : m < 8) :
    ((List.zipWith (fun x y => (x + y) % 4294967296) Z H).take m ++ Z.drop m).set m ((Z.getD m 0 + H.getD m 0) % 4294967296) = (List.zipWith (fun x y => (x + y) % 4294967296) Z H).take (m + 1) ++ Z.drop (m + 1) := by
  apply List.ext_getElem?
  intro j
  have hl : ((List.zipWith (fun x y => (x + y) % 4294967296) Z H).take m).length = m := by simp; omega
  have hl2 : ((List.zipWith (fun x y => (x + y) % 4294967296) Z H).take (m + 1)).length = m + 1 := by simp; omega
  by_cases hj : j = m
  · subst hj
    rw [List.getElem?_set_self (by simp; omega), List.getElem?_append_left (by omega), List.getElem?_take, if_pos (by omega), List.getElem?_zipWith]
    simp [List.getD, hZ, hH, hm]
  · rw [List.getElem?_set_ne (by omega)]
    by_cases hlt : j < m
    · rw [List.getElem?_append_left (by omega), List.getElem?_append_left (by omega), List.getElem?_take, if_pos hlt, List.getElem?_take, if_pos (by omega)]
    · rw [List.getElem?_append_right (by omega), List.getElem?_append_right (by omega), hl, hl2, List.getElem?_drop, List.getElem?_drop]
      congr 1
      omega

set_option maxRecDepth 1000000 in
set_option maxHeartbeats 4000000 in
theorem block_spec (w : World) (bh offh caph : Nat) (b off cap : Nat) (bk offk capk : Nat) (a0 b0 c0 d0 e0 f0 q0 h0 : Nat) (ys : List Int) (K : List Nat)
    (hH : ∀ x ∈ [a0, b0, c0, d0, e0, f0, q0, h0], x < 4294967296) (hhc : ∀ j, j < (ns [a0, b0, c0, d0, e0, f0, q0, h0]).length → w.cell? ⟨bh, offh + j, none⟩ = (ns [a0, b0, c0, d0, e0, f0, q0, h0])[j]?) (hch : 8 ≤ caph)
    (hy : ys.length = 64) (hcap : 64 ≤ cap) (hby : Byt ys) (hcells : ∀ j, j < ys.length → w.cell? ⟨b, off + j, none⟩ = (bs ys)[j]?)
    (hK : K.length = 64) (hKb : ∀ x ∈ K, x < 4294967296) (hKc : ∀ j, j < (ns K).length → w.cell? ⟨bk, offk + j, none⟩ = (ns K)[j]?) (hck : 64 ≤ capk) :
    Calls Tryz.prog 98 #[.slice (some ⟨bh, offh, none⟩) 8 caph, .slice (some ⟨b, off, none⟩) 64 cap, .slice (some ⟨bk, offk, none⟩) 64 capk] w fun e w' => ∃ v', e = .returned v' ∧ Own w' w.heap.size w'.heap.size 3 v' (ns (blk [a0, b0, c0, d0, e0, f0, q0, h0] ys K)) ∧ Below w.heap.size w w' := by
  obtain ⟨i0, hi, hz0, hz1, hz2⟩ := info_parts info3
  have hlh : bh < w.heap.size := World.block_lt_of_cell? w ⟨bh, offh + 0, none⟩ (kcell hhc 0 (by simp))
  have hlk : bk < w.heap.size := World.block_lt_of_cell? w ⟨bk, offk + 0, none⟩ (kcell hKc 0 (by omega))
  go_enter Tryz.func98, Tryz.ntmps98
  go_wp2_with fail
  refine (words_spec w b off cap ys hy hcap hby hcells).mono ?_
  rintro e w1 ⟨vw, rfl, ow1, b1⟩
  have s1 := b1.size
  have hWl := words_len ys
  have hWb := words_lt hby
  obtain ⟨W, hW⟩ : ∃ W, W = words ys := ⟨_, rfl⟩
  rw [← hW] at hWl hWb ow1
  obtain ⟨gw, capw, rfl, hgw1, hgw2, hcapw, hcw⟩ := Own.form ow1 (by rw [ns_len, hWl]; omega)
  rw [ns_len, hWl] at hcapw
  rw [ns_len, hWl]
  have slh : Sl w1 (.slice (some ⟨bh, offh, none⟩) 8 caph) (ns [a0, b0, c0, d0, e0, f0, q0, h0]) := by
    refine Sl.later ?_ b1
    exact ⟨some ⟨bh, offh, none⟩, caph, rfl, hch, fun h => (by cases h), fun _ => ⟨bh, offh, rfl, hhc⟩⟩
  have slh2 : ∀ o, Sl (w1.alloc o) (.slice (some ⟨bh, offh, none⟩) 8 caph) (ns [a0, b0, c0, d0, e0, f0, q0, h0]) := fun o => slh.later ((Below.refl _ _).alloc (Nat.le_refl _) o)
  have c2 : (ns []).length + (ns [a0, b0, c0, d0, e0, f0, q0, h0]).length ≤ maxLen := by simp [ns]; unfold maxLen; omega
  have c3 : ((ns []).length + (ns [a0, b0, c0, d0, e0, f0, q0, h0]).length) * 8 ≤ 140737488355328 := by simp [ns]
  have c4 : ∀ o, w1.heap.size ≤ (w1.alloc o).heap.size := fun o => by simp
  go_wp2_with (at_builtin; go_must (refine wpl_app _ rfl (.tmp 21) (.tmp 22) 66 rfl 3 i0 (.int .i64 0) 8 Tryz.underlying66 hi hz0 hz1 hz2 rfl w1.heap.size _ (ns []) rfl (Own.emptyN w1 _ (Nat.le_refl _)) _ rfl (ns [a0, b0, c0, d0, e0, f0, q0, h0]) (slh2 _) (ns_one _) c2 c3 (c4 _) ?_))
  intro v2 w2 ho2 hb2 hg2
  have hb2' : Below w1.heap.size w1 w2 := ((Below.refl _ _).alloc (Nat.le_refl _) _).trans hb2
  rw [← ns_app, List.nil_append] at ho2
  have HW : Hid (W = words ys ∧ W.length = 64 ∧ (∀ x ∈ W, x < 4294967296) ∧ K.length = 64 ∧ (∀ x ∈ K, x < 4294967296)) := ⟨hW, hWl, hWb, hK, hKb⟩
  clear c2 c3 c4 slh2 hg2 hb2 ow1 hcells hby hW hWb hKb
  go_wp2
  go_loopw [8, 9] (fun v i wr => ∃ (n a b c d e f q h : Nat), n ≤ 64 ∧ i = .int .i64 (n : Int) ∧ (∀ x ∈ [a, b, c, d, e, f, q, h], x < 4294967296) ∧ rnds (K.drop n) (W.drop n) [a, b, c, d, e, f, q, h] = rnds K W [a0, b0, c0, d0, e0, f0, q0, h0] ∧ Own wr w1.heap.size wr.heap.size 3 v (ns [a, b, c, d, e, f, q, h]) ∧ Below w1.heap.size w1 wr) (fun _ i _ => 64 - (intOf i).toNat)
  case atStart => exact ⟨0, a0, b0, c0, d0, e0, f0, q0, h0, by omega, rfl, hH, rfl, ho2, hb2'⟩
  case round =>
    obtain ⟨n, a, b, c, d, e, f, q, h, hn, rfl, hb8, hE0, ho, hb⟩ := hrel
    have HE : Hid (rnds (K.drop n) (W.drop n) [a, b, c, d, e, f, q, h] = rnds K W [a0, b0, c0, d0, e0, f0, q0, h0]) := hE0
    have hsz := hb.size
    have hbw : Below w.heap.size w wr := b1.trans (hb.mono s1)
    clear hE0 ho2 hb2'
    by_cases hlt : n < 64
    · obtain ⟨g, capv, rfl, hg1, hg2, hcapv, hcv⟩ := Own.form ho (by simp [ns])
      obtain ⟨k0, k1, k2, k3, k4, k5, k6, k7⟩ := at8 hcv
      have hcapv8 : 8 ≤ capv := by simpa [ns] using hcapv
      have hlen8 : (ns [a, b, c, d, e, f, q, h]).length = 8 := by simp [ns]
      rw [hlen8] at ho
      rw [hlen8]
      have la : a < 4294967296 := hb8 a (by simp)
      have lb : b < 4294967296 := hb8 b (by simp)
      have lc : c < 4294967296 := hb8 c (by simp)
      have ld : d < 4294967296 := hb8 d (by simp)
      have le : e < 4294967296 := hb8 e (by simp)
      have lf : f < 4294967296 := hb8 f (by simp)
      have lq : q < 4294967296 := hb8 q (by simp)
      have lh : h < 4294967296 := hb8 h (by simp)
      have kk : wr.cell? ⟨bk, offk + n, none⟩ = some (.int .i64 ((K.getD n 0 : Nat) : Int)) := by
        rw [hbw.cell (p := ⟨bk, offk + n, none⟩) hlk]; exact kcell hKc n (by omega)
      have kw : wr.cell? ⟨gw, n, none⟩ = some (.int .i64 ((W.getD n 0 : Nat) : Int)) := by
        rw [hb.cell (p := ⟨gw, n, none⟩) hgw2]; exact ns_cell hcw n (by omega)
      have lk : K.getD n 0 < 4294967296 := getD_lt HW.out.2.2.2.2 n
      have lw : W.getD n 0 < 4294967296 := getD_lt HW.out.2.2.1 n
      have HR : Hid (rnds (K.drop (n + 1)) (W.drop (n + 1)) (rnd8 a b c d e f q h (K.getD n 0) (W.getD n 0)) = rnds K W [a0, b0, c0, d0, e0, f0, q0, h0]) := by
        show _ = _
        rw [← HE.out, drop_nat (L := K) (k := n) (by omega), drop_nat (L := W) (k := n) (by omega), rnds]
      obtain ⟨kn, ekn⟩ : ∃ z, K.getD n 0 = z := ⟨_, rfl⟩
      obtain ⟨wn, ewn⟩ : ∃ z, W.getD n 0 = z := ⟨_, rfl⟩
      rw [ekn] at kk lk HR
      rw [ewn] at kw lw HR
      clear ekn ewn hcv hcapv hlen8 HE hb8 hWl hK hcw hKc hhc slh hH
      have x1 := big1_bits e
      have x2 := ch_bits le lf lq
      have x3 := big0_bits a
      have x4 := maj_bits la lb lc
      have m1 := big1_lt e
      have m2 := ch_lt (e := e) lf lq
      have m3 := big0_lt a
      have m4 := maj_lt (a := a) lb lc
      have p6 : ∀ w, _ := fun w => turn_at w e 6 6 rfl le (by omega) (by omega)
      have p11 : ∀ w, _ := fun w => turn_at w e 11 11 rfl le (by omega) (by omega)
      have p25 : ∀ w, _ := fun w => turn_at w e 25 25 rfl le (by omega) (by omega)
      have p2 : ∀ w, _ := fun w => turn_at w a 2 2 rfl la (by omega) (by omega)
      have p13 : ∀ w, _ := fun w => turn_at w a 13 13 rfl la (by omega) (by omega)
      have p22 : ∀ w, _ := fun w => turn_at w a 22 22 rfl la (by omega) (by omega)
      have z0 : (0 : Int) ≤ (n : Int) := by omega
      have z1 : (n : Int) < 64 := by omega
      go_wp2_with fail
      refine (p6 _).mono ?_
      rintro e w' ⟨rfl, rfl⟩
      go_wp2_with fail
      refine (p11 _).mono ?_
      rintro e w' ⟨rfl, rfl⟩
      go_wp2_with fail
      refine (p25 _).mono ?_
      rintro e w' ⟨rfl, rfl⟩
      go_wp2_with fail
      go_quiet (fail)
      generalize nq = N1
      go_wp2_with fail
      go_quiet (fail)
      generalize nq = N2
      go_wp2_with fail
      refine (p2 _).mono ?_
      rintro e w' ⟨rfl, rfl⟩
      go_wp2_with fail
      refine (p13 _).mono ?_
      rintro e w' ⟨rfl, rfl⟩
      go_wp2_with fail
      refine (p22 _).mono ?_
      rintro e w' ⟨rfl, rfl⟩
      go_wp2_with fail
      go_quiet (fail)
      generalize nq = N3
      go_wp2_with fail
      clear p6 p11 p25 p2 p13 p22 x1 x2 x3 x4 kk kw
      have v1 := World.new_ne wr ⟨g, 1, none⟩ k1
      have hlo : w1.heap.size ≤ ((wr.drewN (N1 + N2 + N3)).drew).heap.size := hsz
      go_region_held3 (fun w' => w'.cell? ⟨g, 1, none⟩ = some (.int .i64 (b : Int)) ∧ w'.cell? ⟨g, 2, none⟩ = some (.int .i64 (c : Int)) ∧ w'.cell? ⟨g, 3, none⟩ = some (.int .i64 (d : Int)) ∧ w'.cell? ⟨g, 5, none⟩ = some (.int .i64 (f : Int)) ∧ w'.cell? ⟨g, 6, none⟩ = some (.int .i64 (q : Int)))
        (go_keep) (fail)
      have s1' : ((t1 e f q h kn wn + t2 a b c : Nat) : Int) = (h : Int) + (big1 e : Int) + (ch e f q : Int) + (kn : Int) + (wn : Int) + ((big0 a : Int) + (maj a b c : Int)) := by unfold t1 t2; omega
      have s2' : ((d + t1 e f q h kn wn : Nat) : Int) = (d : Int) + ((h : Int) + (big1 e : Int) + (ch e f q : Int) + (kn : Int) + (wn : Int)) := by unfold t1; omega
      have E0 : bits .and .i64 ((h : Int) + (big1 e : Int) + (ch e f q : Int) + (kn : Int) + (wn : Int) + ((big0 a : Int) + (maj a b c : Int))) 4294967295 = (((t1 e f q h kn wn + t2 a b c) % 4294967296 : Nat) : Int) := by
        rw [← s1', mask_nat (by omega)]
      have E4 : bits .and .i64 ((d : Int) + ((h : Int) + (big1 e : Int) + (ch e f q : Int) + (kn : Int) + (wn : Int))) 4294967295 = (((d + t1 e f q h kn wn) % 4294967296 : Nat) : Int) := by
        rw [← s2', mask_nat (by omega)]
      have hnew := rnd_own (W := wr.drewN (N1 + N2 + N3 + 1)) (a := a) (b := b) (c := c) (e := e) (f := f) (q := q) E0 E4 hsz
      have hbn : Below w1.heap.size w1 _ := (below_drewN hb (N1 + N2 + N3 + 1)).alloc hsz (.cells #[.int .i64 (bits .and .i64 ((h : Int) + (big1 e : Int) + (ch e f q : Int) + (kn : Int) + (wn : Int) + ((big0 a : Int) + (maj a b c : Int))) 4294967295), .int .i64 (a : Int), .int .i64 (b : Int), .int .i64 (c : Int), .int .i64 (bits .and .i64 ((d : Int) + ((h : Int) + (big1 e : Int) + (ch e f q : Int) + (kn : Int) + (wn : Int))) 4294967295), .int .i64 (e : Int), .int .i64 (f : Int), .int .i64 (q : Int)] 3)
      have hbd : ∀ x ∈ rnd8 a b c d e f q h kn wn, x < 4294967296 := by
        intro x hx
        simp only [rnd8, List.mem_cons, List.not_mem_nil, or_false] at hx
        rcases hx with rfl | rfl | rfl | rfl | rfl | rfl | rfl | rfl
        · exact Nat.mod_lt _ (by decide)
        · exact la
        · exact lb
        · exact lc
        · exact Nat.mod_lt _ (by decide)
        · exact le
        · exact lf
        · exact lq
      clear s1' s2' E0 E4 k0 k1 k2 k3 k4 k5 k6 k7 ho
      go_wp2
      go_roundw
      case rel => exact ⟨n + 1, _, a, b, c, _, e, f, q, by omega, by go_num, hbd, HR.out, hnew, hbn⟩
      case measure => simp [intOf]; omega
    · have hn64 : n = 64 := by omega
      have HZ : Hid ([a, b, c, d, e, f, q, h] = rnds K (words ys) [a0, b0, c0, d0, e0, f0, q0, h0]) := by
        have h1 := HE.out
        rw [hn64, List.drop_eq_nil_of_le (show K.length ≤ 64 by rw [HW.out.2.2.2.1]; omega), rnds, HW.out.1] at h1
        · exact h1
        · intro k ks x xs a b c d e f q h h1
          cases h1
      obtain ⟨Z, hZ⟩ : ∃ Z, Z = [a, b, c, d, e, f, q, h] := ⟨_, rfl⟩
      obtain ⟨H, hHe⟩ : ∃ H, H = [a0, b0, c0, d0, e0, f0, q0, h0] := ⟨_, rfl⟩
      have hZl : Z.length = 8 := by rw [hZ]; rfl
      have hHl : H.length = 8 := by rw [hHe]; rfl
      have hZb : ∀ x ∈ Z, x < 4294967296 := by rw [hZ]; exact hb8
      have hHb : ∀ x ∈ H, x < 4294967296 := by rw [hHe]; exact hH
      have HF : Hid (List.zipWith (fun x y => (x + y) % 4294967296) Z H = blk [a0, b0, c0, d0, e0, f0, q0, h0] ys K) := by
        show _ = _; rw [hZ, hHe, HZ.out]; rfl
      rw [← hHe] at hhc
      rw [← hZ] at ho
      obtain ⟨g, capv, rfl, hg1, hg2, hcapv, hcv⟩ := Own.form ho (by rw [ns_len, hZl]; omega)
      rw [ns_len, hZl] at ho hcapv
      rw [ns_len, hZl]
      clear HZ hZ hHe HE hb8 hH slh hcv hn64 hKc hcw
      go_wp2
      go_loopw [18] (fun i w' => ∃ (m : Nat) (L : List Nat), m ≤ 8 ∧ i = .int .i64 (m : Int) ∧ L = (List.zipWith (fun x y => (x + y) % 4294967296) Z H).take m ++ Z.drop m ∧ w'.ownsRow w1.heap.size 3 1 (.slice (some ⟨g, 0, none⟩) 8 capv) 8 (ns L) ∧ Below w1.heap.size w1 w') (fun i _ => 8 - (intOf i).toNat)
      case atStart => exact ⟨0, Z, by omega, rfl, by simp, by have := ho.1; rw [ns_len, hZl] at this; exact this, hb⟩
      case round =>
        obtain ⟨m, L, hm, rfl, hL0, hown, hbm⟩ := hrel
        have hbw2 : Below w.heap.size w wr := b1.trans (hbm.mono s1)
        have hsz2 := hbm.size
        by_cases hlt2 : m < 8
        · have hLm : L[m]? = some (Z.getD m 0) := by
            rw [hL0, List.getElem?_append_right (by simp; omega)]
            simp [List.getD, hZl, hlt2, hHl]
            rw [show m + (m - min m 8) = m by omega]
            simp [hZl, hlt2]
          have kv : wr.cell? ⟨g, m, none⟩ = some (.int .i64 ((Z.getD m 0 : Nat) : Int)) := by
            rw [hown.cellAt m (by omega)]; simp [ns, hLm]
          have kh : wr.cell? ⟨bh, offh + m, none⟩ = some (.int .i64 ((H.getD m 0 : Nat) : Int)) := by
            rw [hbw2.cell (p := ⟨bh, offh + m, none⟩) hlh]; exact kcell hhc m (by omega)
          have hf := hown.frozenAt m
          have lz : Z.getD m 0 < 4294967296 := getD_lt hZb m
          have lh2 : H.getD m 0 < 4294967296 := getD_lt hHb m
          have HN : Hid (L.set m ((Z.getD m 0 + H.getD m 0) % 4294967296) = (List.zipWith (fun x y => (x + y) % 4294967296) Z H).take (m + 1) ++ Z.drop (m + 1)) := by
            show _ = _; rw [hL0]; exact zip_step Z H m hZl hHl hlt2
          have hst := (hown.stored m (.int .i64 (((Z.getD m 0 + H.getD m 0) % 4294967296 : Nat) : Int))).1
          have hset : (ns L).set m (.int .i64 (((Z.getD m 0 + H.getD m 0) % 4294967296 : Nat) : Int)) = ns (L.set m ((Z.getD m 0 + H.getD m 0) % 4294967296)) := by simp [ns, List.map_set]
          rw [hset] at hst
          have hsum := mask_nat (a := Z.getD m 0 + H.getD m 0) (by omega)
          obtain ⟨zm, ezm⟩ : ∃ z, Z.getD m 0 = z := ⟨_, rfl⟩
          obtain ⟨hm2, ehm⟩ : ∃ z, H.getD m 0 = z := ⟨_, rfl⟩
          rw [ezm, ehm] at HN hst hsum
          rw [ezm] at kv lz
          rw [ehm] at kh lh2
          have ecast : ((zm + hm2 : Nat) : Int) = (zm : Int) + (hm2 : Int) := by omega
          rw [ecast] at hsum
          have HS : Hid _ := hst
          have z0 : (0 : Int) ≤ (m : Int) := by omega
          have z1 : (m : Int) < 8 := by omega
          have hne : ¬ bh = g := by omega
          clear hst hset ezm ehm hL0 hLm ecast hhc ho
          go_wp2
          go_region
          go_wp2
          go_roundw
          case rel => exact ⟨m + 1, L.set m ((zm + hm2) % 4294967296), by omega, by go_num, HN.out, HS.out, Below.drew (hbm.setCell (p := ⟨g, m, none⟩) hg1 _)⟩
          case measure => simp [intOf]; omega
        · go_wp2
          go_ret
          have h1 := HF.out
          rw [hL0, List.take_of_length_le (by simp; omega), List.drop_eq_nil_of_le (by omega), List.append_nil, h1] at hown
          refine ⟨_, rfl, (Own.of hown).mono s1 (Nat.le_refl _), hbw2⟩

end Go.Proofs.YtbopliahafkecaaGreatDoor.Sha
