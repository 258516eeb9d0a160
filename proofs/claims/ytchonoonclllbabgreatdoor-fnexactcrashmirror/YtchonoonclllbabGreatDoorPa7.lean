/- Texts in one: Gets, Plain3. -/
import Derived.Test.YtchonoonclllbabGreatDoorPa3
import Derived.Test.YtchonoonclllbabGreatDoorPa6
import Derived.Test.YtchonoonclllbabGreatDoorPa2
namespace Go.Proofs.YtchonoonclllbabGreatDoor.Gets
open Go.RowKit Go.Proofs.YtchonoonclllbabGreatDoor.Mem Go.Proofs.YtchonoonclllbabGreatDoor.Plain
set_option linter.unusedVariables false
theorem ret3 {a a' b b' : Int} {c c' : Bool} (h1 : a = a') (h2 : b = b') (h3 : c = c') : Ending.returned (.tuple #[.int .i64 a, .int .i64 b, .bool c]) = .returned (.tuple #[.int .i64 a', .int .i64 b', .bool c']) := by rw [h1, h2, h3]
theorem getNum_out {xs : List Int} {at_ : Int} (h : at_ < 0 ∨ (xs.length : Int) ≤ at_) : getNum xs at_ = (0, 0, false) := by
 unfold getNum; rw [if_neg (by omega)]
theorem getNum_none {xs : List Int} {a : Nat} (ha : a < xs.length) (h : dec 0 0 1 (xs.drop a) = none) : getNum xs (a : Int) = (0, 0, false) := by
 unfold getNum; rw [if_pos (by omega)]; simp [h]
theorem getNum_some {xs : List Int} {a : Nat} {n : Int} {k : Nat} (ha : a < xs.length) (h : dec 0 0 1 (xs.drop a) = some (n, k)) : getNum xs (a : Int) = (n, (a : Int) + k, true) := by
 unfold getNum; rw [if_pos (by omega)]; simp [h]
theorem drop_at {xs : List Int} {a k : Nat} {c : Int} (h : xs[a + k]? = some c) : xs.drop (a + k) = c :: xs.drop (a + (k + 1)) := by
 obtain ⟨hk, rfl⟩ := List.getElem?_eq_some_iff.1 h
 rw [List.drop_eq_getElem_cons hk]; rfl
theorem dec_more {k : Nat} {N W c : Int} {r : List Int} (h5 : k ≠ 5) (hc : 128 ≤ c) : dec k N W (c :: r) = dec (k + 1) (N + c % 128 * W) (W * 128) r := by
 rw [dec, if_neg h5, if_pos hc]
theorem dec_five {N W c : Int} {r : List Int} : dec 5 N W (c :: r) = none := by rw [dec, if_pos rfl]
theorem dec_bad {k : Nat} {N W c : Int} {r : List Int} (h5 : k ≠ 5) (hc : c < 128) (hb : 1000000000 < N + c % 128 * W ∨ (0 < k ∧ c % 128 = 0)) : dec k N W (c :: r) = none := by
 rw [dec, if_neg h5, if_neg (by omega), if_pos hb]
theorem dec_good {k : Nat} {N W c : Int} {r : List Int} (h5 : k ≠ 5) (hc : c < 128) (hb : ¬ (1000000000 < N + c % 128 * W ∨ (0 < k ∧ c % 128 = 0))) : dec k N W (c :: r) = some (N + c % 128 * W, k + 1) := by
 rw [dec, if_neg h5, if_neg (by omega), if_neg hb]
theorem pow_bd {k : Nat} (hk : k < 5) : 1 ≤ (128 : Int) ^ k ∧ (128 : Int) ^ k ≤ 268435456 := by
 rcases (show k = 0 ∨ k = 1 ∨ k = 2 ∨ k = 3 ∨ k = 4 by omega) with rfl | rfl | rfl | rfl | rfl <;> decide
theorem prod_bd {c W : Int} (hW : 1 ≤ W) : 0 ≤ c % 128 * W ∧ c % 128 * W ≤ 127 * W :=
 ⟨Int.mul_nonneg (by omega) (by omega), Int.mul_le_mul_of_nonneg_right (by omega) (by omega)⟩
set_option maxHeartbeats 1000000 in
theorem get_impl (w : World) (v : Value) (xs : List Int) (at_ : Int) (h : Sl w v (bs xs)) (hb : Byt xs) (hx : xs.length ≤ 140737488355328) (hlo : -9223372036854775808 ≤ at_) (hhi : at_ ≤ 9223372036854775807) :
  Calls Tryz.prog 142 #[v, .int .i64 at_] w fun e w' => e = .returned (.tuple #[.int .i64 (getNum xs at_).1, .int .i64 (getNum xs at_).2.1, .bool (getNum xs at_).2.2]) ∧ w' = w := by
 obtain ⟨ao, cap, rfl, hc1, _, hr1⟩ := h
 rw [bs_len] at hr1 hc1
 rw [bs_len]
 by_cases h0 : at_ < 0
 ·
  have HG : Hid (getNum xs at_ = (0, 0, false)) := getNum_out (.inl h0)
  go_enter Tryz.func142, Tryz.ntmps142
  go_wp2
  go_ret3
  exact ⟨by rw [HG.out]; rfl, rfl⟩
 by_cases h1 : (xs.length : Int) ≤ at_
 ·
  have HG : Hid (getNum xs at_ = (0, 0, false)) := getNum_out (.inr h1)
  go_enter Tryz.func142, Tryz.ntmps142
  go_wp2
  go_ret3
  exact ⟨by rw [HG.out]; rfl, rfl⟩
 obtain ⟨a, rfl⟩ := Int.eq_ofNat_of_zero_le (show 0 ≤ at_ by omega)
 have ha : a < xs.length := by omega
 have hd0 : decide ((a : Int) < 0) = false := by simp
 obtain ⟨b, off, rfl, hcells⟩ := hr1 (by omega)
 clear h0 h1 hlo hhi
 go_enter Tryz.func142, Tryz.ntmps142
 go_wp2
 go_loop [7, 8, 24] (fun n wo i => ∃ (k : Nat) (N W : Int), k ≤ xs.length - a ∧ k ≤ 5 ∧ i = .int .i64 k ∧ n = .int .i64 N ∧ wo = .int .i64 W ∧ W = 128 ^ k ∧ 0 ≤ N ∧ N < W ∧ dec 0 0 1 (xs.drop a) = dec k N W (xs.drop (a + k))) (fun _ _ i => (xs.length - a) - (intOf i).toNat)
 case atStart => exact ⟨0, 0, 1, Nat.zero_le _, by omega, rfl, rfl, rfl, rfl, by omega, by omega, rfl⟩
 case round =>
  obtain ⟨k, N, W, hk, hk5, rfl, rfl, rfl, hW0, hN0, hN1, hD0⟩ := hrel
  have HD : Hid (W = 128 ^ k ∧ dec 0 0 1 (xs.drop a) = dec k N W (xs.drop (a + k))) := ⟨hW0, hD0⟩
  clear hD0 hW0
  by_cases hlt : k < xs.length - a
  ·
   obtain ⟨c, hc0⟩ : ∃ c, xs[a + k]? = some c := ⟨xs[a + k]'(by omega), by simp⟩
   have hcell : w.cell? ⟨b, off + a + k, none⟩ = some (.int .u8 c) := by
    rw [Nat.add_assoc, hcells (a + k) (by omega), bs_get, hc0]; rfl
   have hby := hb.at hc0
   have HC : Hid (xs.drop (a + k) = c :: xs.drop (a + (k + 1))) := drop_at hc0
   clear hcells hc0 hb
   by_cases h5 : k = 5
   ·
    have HR : Hid (getNum xs (a : Int) = (0, 0, false)) := getNum_none ha (by rw [HD.out.2, HC.out, h5]; exact dec_five)
    have h5' : ((k : Int) == 5) = true := by simp; omega
    clear HD HC h5
    go_wp2
    go_ret3
    exact ⟨by rw [HR.out]; rfl, rfl⟩
   have hWb : 1 ≤ W ∧ W ≤ 268435456 := by rw [HD.out.1]; exact pow_bd (by omega)
   have hpb := prod_bd (c := c) hWb.1
   have h5' : ((k : Int) == 5) = false := by simp; omega
   by_cases hge : 128 ≤ c
   ·
    have HR : Hid (W * 128 = 128 ^ (k + 1) ∧ dec 0 0 1 (xs.drop a) = dec (k + 1) (N + c % 128 * W) (W * 128) (xs.drop (a + (k + 1)))) :=
     ⟨by rw [HD.out.1, Int.pow_succ], by rw [HD.out.2, HC.out, dec_more h5 hge]⟩
    clear HD HC
    go_wp2
    go_round
    case rel => exact ⟨k + 1, N + c % 128 * W, W * 128, by omega, by omega, by go_num, rfl, rfl, HR.out.1, by omega, by omega, HR.out.2⟩
    case measure => simp [intOf]; omega
   ·
    have hlt8 : c < 128 := by omega
    by_cases hbig : 1000000000 < N + c % 128 * W
    ·
     have HR : Hid (getNum xs (a : Int) = (0, 0, false)) := getNum_none ha (by rw [HD.out.2, HC.out]; exact dec_bad h5 hlt8 (.inl hbig))
     have hdec : decide (1000000000 < N + c % 128 * W) = true := by simpa using hbig
     clear HD HC
     go_wp2
     go_ret3
     exact ⟨by rw [HR.out]; rfl, rfl⟩
    ·
     have hdec : decide (1000000000 < N + c % 128 * W) = false := by simpa using hbig
     by_cases hk0 : 0 < k
     ·
      have hdk : decide ((0 : Int) < (k : Int)) = true := by simpa using hk0
      by_cases hz : c % 128 = 0
      ·
       have HR : Hid (getNum xs (a : Int) = (0, 0, false)) := getNum_none ha (by rw [HD.out.2, HC.out]; exact dec_bad h5 hlt8 (.inr ⟨hk0, hz⟩))
       have hz' : (c % 128 == 0) = true := by simpa using hz
       clear HD HC hz
       go_wp2
       go_ret3
       exact ⟨by rw [HR.out]; rfl, rfl⟩
      ·
       have HR : Hid (getNum xs (a : Int) = (N + c % 128 * W, (a : Int) + ((k + 1 : Nat) : Int), true)) := getNum_some ha (by rw [HD.out.2, HC.out]; exact dec_good h5 hlt8 (by omega))
       have hz' : (c % 128 == 0) = false := by simpa using hz
       clear HD HC hz
       go_wp2
       go_ret3
       exact ⟨by rw [HR.out]; exact ret3 rfl (by dsimp only; omega) rfl, rfl⟩
     ·
      have hdk : decide ((0 : Int) < (k : Int)) = false := by simpa using hk0
      have HR : Hid (getNum xs (a : Int) = (N + c % 128 * W, (a : Int) + ((k + 1 : Nat) : Int), true)) := getNum_some ha (by rw [HD.out.2, HC.out]; exact dec_good h5 hlt8 (by omega))
      clear HD HC
      go_wp2
      go_ret3
      exact ⟨by rw [HR.out]; exact ret3 rfl (by dsimp only; omega) rfl, rfl⟩
  ·
   have HR : Hid (getNum xs (a : Int) = (0, 0, false)) := getNum_none ha (by rw [HD.out.2, List.drop_eq_nil_of_le (by omega)]; rfl)
   clear HD
   go_wp2
   go_ret3
   exact ⟨by rw [HR.out]; rfl, rfl⟩
theorem and127b {c : Int} (h : 0 ≤ c ∧ c ≤ 255) : bits .and .i64 c 127 = c % 128 := and127 h.1 (by omega)
set_option maxHeartbeats 1000000 in
theorem get_spec (w : World) (v : Value) (xs : List Int) (at_ : Int) (h : Sl w v (bs xs)) (hb : Byt xs) (hx : xs.length ≤ 140737488355328) (hlo : -9223372036854775808 ≤ at_) (hhi : at_ ≤ 9223372036854775807) :
  Calls Tryz.prog 138 #[v, .int .i64 at_] w fun e w' => e = .returned (.tuple #[.int .i64 (getNum xs at_).1, .int .i64 (getNum xs at_).2.1, .bool (getNum xs at_).2.2]) ∧ w' = w := by
 obtain ⟨ao, cap, rfl, hc1, _, hr1⟩ := h
 rw [bs_len] at hr1 hc1
 rw [bs_len]
 by_cases h0 : at_ < 0
 ·
  have HG : Hid (getNum xs at_ = (0, 0, false)) := getNum_out (.inl h0)
  have hd : decide (0 ≤ at_) = false := by simp; omega
  go_enter Tryz.func138, Tryz.ntmps138
  go_wp2
  refine wp_loop_rounds 1 ?_; rw [rounds_succ]
  go_wp2
  go_ret3
  exact ⟨by rw [HG.out]; rfl, rfl⟩
 by_cases h1 : (xs.length : Int) ≤ at_
 ·
  have HG : Hid (getNum xs at_ = (0, 0, false)) := getNum_out (.inr h1)
  have hd : decide (0 ≤ at_) = true := by simp; omega
  have hd2 : decide (at_ < (xs.length : Int)) = false := by simp; omega
  go_enter Tryz.func138, Tryz.ntmps138
  go_wp2
  refine wp_loop_rounds 1 ?_; rw [rounds_succ]
  go_wp2
  go_ret3
  exact ⟨by rw [HG.out]; rfl, rfl⟩
 obtain ⟨a, rfl⟩ := Int.eq_ofNat_of_zero_le (show 0 ≤ at_ by omega)
 have ha : a < xs.length := by omega
 obtain ⟨b, off, rfl, hcells⟩ := hr1 (by omega)
 clear h0 h1 hlo hhi
 have hda : decide ((0 : Int) ≤ (a : Int)) = true := by simp
 have hdb : decide ((a : Int) < (xs.length : Int)) = true := by simp; omega
 go_enter Tryz.func138, Tryz.ntmps138
 go_wp2
 go_loop [7, 8] (fun n i => ∃ (k : Nat) (N W : Int), a + k ≤ xs.length ∧ k ≤ 5 ∧ i = .int .i64 k ∧ n = .int .i64 N ∧ W = 128 ^ k ∧ 0 ≤ N ∧ N < W ∧ dec 0 0 1 (xs.drop a) = dec k N W (xs.drop (a + k))) (fun _ i => 5 - (intOf i).toNat)
 case atStart => exact ⟨0, 0, 1, by omega, by omega, rfl, rfl, rfl, by omega, by omega, rfl⟩
 case round =>
  obtain ⟨k, N, W, hk, hk5, rfl, rfl, hW0, hN0, hN1, hD0⟩ := hrel
  have HD : Hid (W = 128 ^ k ∧ dec 0 0 1 (xs.drop a) = dec k N W (xs.drop (a + k))) := ⟨hW0, hD0⟩
  clear hD0 hW0
  by_cases h5 : k = 5
  ·
   have h5' : decide ((k : Int) < 5) = false := by simp; omega
   have HR : Hid (getNum xs (a : Int) = (0, 0, false)) := by
    by_cases hlt : a + k < xs.length
    ·
     exact getNum_none ha (by subst h5; rw [HD.out.2, List.drop_eq_getElem_cons hlt]; exact dec_five)
    ·
     exact getNum_none ha (by rw [HD.out.2, List.drop_eq_nil_of_le (by omega)]; rfl)
   clear HD h5
   go_wp2
   go_ret3
   exact ⟨by rw [HR.out]; rfl, rfl⟩
  have h5' : decide ((k : Int) < 5) = true := by simp; omega
  by_cases hlt : a + k < xs.length
  ·
   have hlt' : decide ((a : Int) + (k : Int) < (xs.length : Int)) = true := by simp; omega
   obtain ⟨c, hc0⟩ : ∃ c, xs[a + k]? = some c := ⟨xs[a + k]'(by omega), by simp⟩
   have hcell : w.cell? ⟨b, off + (a + k), none⟩ = some (.int .u8 c) := by
    rw [hcells (a + k) (by omega), bs_get, hc0]; rfl
   have hby := hb.at hc0
   have HC : Hid (xs.drop (a + k) = c :: xs.drop (a + (k + 1))) := drop_at hc0
   clear hcells hc0 hb
   have hWb : 1 ≤ W ∧ W ≤ 268435456 := by rw [HD.out.1]; exact pow_bd (by omega)
   have hpb := prod_bd (c := c) hWb.1
   have hmask := and127b hby
   have hor : bits .or .i64 N (wrap64 (c % 128 * 2 ^ (7 * k))) = N + c % 128 * W := by
    have e : (128 : Int) ^ k = 2 ^ (7 * k) := by rw [Int.pow_mul]; rfl
    have hw : wrap64 (c % 128 * 2 ^ (7 * k)) = c % 128 * 2 ^ (7 * k) := IntWalk.wrap64_in _ (by rw [← e, ← HD.out.1]; omega)
    rw [hw, HD.out.1]; exact or_join (by omega) hN0 (by rw [← HD.out.1]; exact hN1) (by omega) (by omega)
   by_cases hge : 127 < c
   ·
    have HR : Hid (W * 128 = 128 ^ (k + 1) ∧ dec 0 0 1 (xs.drop a) = dec (k + 1) (N + c % 128 * W) (W * 128) (xs.drop (a + (k + 1)))) :=
     ⟨by rw [HD.out.1, Int.pow_succ], by rw [HD.out.2, HC.out, dec_more h5 (by omega)]⟩
    clear HD HC
    go_wp2
    go_round
    case rel => exact ⟨k + 1, N + c % 128 * W, W * 128, by omega, by omega, by go_num, rfl, HR.out.1, by omega, by omega, HR.out.2⟩
    case measure => simp [intOf]; omega
   ·
    have hlt8 : c < 128 := by omega
    by_cases hk0 : 0 < k
    ·
     have hdk : decide ((0 : Int) < (k : Int)) = true := by simpa using hk0
     by_cases hz : c = 0
     ·
      have HR : Hid (getNum xs (a : Int) = (0, 0, false)) := getNum_none ha (by rw [HD.out.2, HC.out]; exact dec_bad h5 hlt8 (.inr ⟨hk0, by omega⟩))
      have hz' : (c == 0) = true := by simpa using hz
      clear HD HC hz
      go_wp2
      go_ret3
      exact ⟨by rw [HR.out]; rfl, rfl⟩
     ·
      have hz' : (c == 0) = false := by simpa using hz
      by_cases hbig : 1000000000 < N + c % 128 * W
      ·
       have HR : Hid (getNum xs (a : Int) = (0, 0, false)) := getNum_none ha (by rw [HD.out.2, HC.out]; exact dec_bad h5 hlt8 (.inl hbig))
       have hdec : decide (1000000000 < N + c % 128 * W) = true := by simpa using hbig
       clear HD HC hz
       go_wp2
       go_ret3
       exact ⟨by rw [HR.out]; rfl, rfl⟩
      ·
       have HR : Hid (getNum xs (a : Int) = (N + c % 128 * W, (a : Int) + ((k + 1 : Nat) : Int), true)) := getNum_some ha (by rw [HD.out.2, HC.out]; exact dec_good h5 hlt8 (by omega))
       have hdec : decide (1000000000 < N + c % 128 * W) = false := by simpa using hbig
       clear HD HC hz
       go_wp2
       go_ret3
       exact ⟨by rw [HR.out]; exact ret3 rfl (by dsimp only; omega) rfl, rfl⟩
    ·
     have hdk : decide ((0 : Int) < (k : Int)) = false := by simpa using hk0
     by_cases hbig : 1000000000 < N + c % 128 * W
     ·
      have HR : Hid (getNum xs (a : Int) = (0, 0, false)) := getNum_none ha (by rw [HD.out.2, HC.out]; exact dec_bad h5 hlt8 (.inl hbig))
      have hdec : decide (1000000000 < N + c % 128 * W) = true := by simpa using hbig
      clear HD HC
      go_wp2
      go_ret3
      exact ⟨by rw [HR.out]; rfl, rfl⟩
     ·
      have HR : Hid (getNum xs (a : Int) = (N + c % 128 * W, (a : Int) + ((k + 1 : Nat) : Int), true)) := getNum_some ha (by rw [HD.out.2, HC.out]; exact dec_good h5 hlt8 (by omega))
      have hdec : decide (1000000000 < N + c % 128 * W) = false := by simpa using hbig
      clear HD HC
      go_wp2
      go_ret3
      exact ⟨by rw [HR.out]; exact ret3 rfl (by dsimp only; omega) rfl, rfl⟩
  ·
   have hlt' : decide ((a : Int) + (k : Int) < (xs.length : Int)) = false := by simp; omega
   have HR : Hid (getNum xs (a : Int) = (0, 0, false)) := getNum_none ha (by rw [HD.out.2, List.drop_eq_nil_of_le (by omega)]; rfl)
   clear HD
   go_wp2
   go_ret3
   exact ⟨by rw [HR.out]; rfl, rfl⟩
end Go.Proofs.YtchonoonclllbabGreatDoor.Gets
namespace Go.Proofs.YtchonoonclllbabGreatDoor.Plain
open Go.Proofs.YtchonoonclllbabGreatDoor.Mem Go.Proofs.YtchonoonclllbabGreatDoor.Laws Go.Proofs.YtchonoonclllbabGreatDoor.Puts Go.Proofs.YtchonoonclllbabGreatDoor.Gets
theorem split_mul (m : Nat) (W : Int) : ((m % 128 : Nat) : Int) * W + ((m / 128 : Nat) : Int) * (W * 128) = (m : Int) * W := by
 have h : (m : Int) = ((m / 128 : Nat) : Int) * 128 + ((m % 128 : Nat) : Int) := by omega
 have e : (m : Int) * W = (((m / 128 : Nat) : Int) * 128 + ((m % 128 : Nat) : Int)) * W := by rw [← h]
 rw [e, Int.add_mul, Int.mul_assoc, Int.mul_comm 128 W, Int.add_comm]
theorem dec_enc (f : Nat) : ∀ (m : Nat) (k : Nat) (N W : Int) (r : List Int), m ≤ f → 0 ≤ N → 0 ≤ W → N + (m : Int) * W ≤ 1000000000 → k + (enc m).length ≤ 5 → (k = 0 ∨ 0 < m) → dec k N W (enc m ++ r) = some (N + (m : Int) * W, k + (enc m).length) := by
 induction f with
 | zero =>
  intro m k N W r hm h0 hW hN hk hz
  obtain rfl : m = 0 := by omega
  rw [enc_small (by omega)] at hk ⊢
  have hk0 : k = 0 := by omega
  subst hk0
  exact dec_good (by omega) (by omega) (by rintro (h | h) <;> simp at * <;> omega)
 | succ f ih =>
  intro m k N W r hm h0 hW hN hk hz
  by_cases hs : m < 128
  ·
   rw [enc_small hs] at hk ⊢
   have e : ((m : Nat) : Int) % 128 = (m : Int) := by omega
   have hg := dec_good (k := k) (N := N) (W := W) (c := (m : Int)) (r := r) (by simp at hk; omega) (by omega) (by rw [e]; omega)
   rw [e] at hg
   exact hg
  ·
   rw [enc_step hs] at hk ⊢
   simp only [List.length_cons] at hk
   have e : ((m % 128 + 128 : Nat) : Int) % 128 = ((m % 128 : Nat) : Int) := by omega
   have hstep := dec_more (k := k) (N := N) (W := W) (c := ((m % 128 + 128 : Nat) : Int)) (r := enc (m / 128) ++ r) (by omega) (by omega)
   rw [e] at hstep
   have hsm := split_mul m W
   have hp : 0 ≤ ((m % 128 : Nat) : Int) * W := Int.mul_nonneg (by omega) hW
   have hih := ih (m / 128) (k + 1) (N + ((m % 128 : Nat) : Int) * W) (W * 128) r (by omega) (by omega) (by omega) (by omega) (by omega) (.inr (by omega))
   rw [List.cons_append, hstep, hih]
   simp only [List.length_cons, Option.some.injEq, Prod.mk.injEq]
   omega
theorem num_eq (n : Int) : num n = enc (clampN n).toNat := rfl
theorem getNum_back (ys r : List Int) (n : Int) : getNum (ys ++ (num n ++ r)) (ys.length : Int) = (clampN n, (ys.length : Int) + (num n).length, true) := by
 have hb := clampN_bd n
 have hl := num_len n
 have e : ((clampN n).toNat : Int) = clampN n := by omega
 have hd := dec_enc (clampN n).toNat (clampN n).toNat 0 0 1 r (Nat.le_refl _) (by omega) (by omega) (by omega) (by rw [← num_eq]; omega) (.inl rfl)
 rw [← num_eq] at hd
 have hlen : ys.length < (ys ++ (num n ++ r)).length := by simp; omega
 have h := getNum_some (xs := ys ++ (num n ++ r)) (a := ys.length) hlen (by rw [List.drop_append, List.drop_eq_nil_of_le (Nat.le_refl _), Nat.sub_self, List.nil_append, List.drop_zero]; exact hd)
 rw [h]
 simp only [Prod.mk.injEq, and_true]
 omega
theorem u8s_sb (s : ByteArray) : u8s (sb s) = s.data.toList := by
 unfold u8s sb
 rw [List.map_map]
 have h : ((fun x : Int => UInt8.ofNat x.toNat) ∘ fun b : UInt8 => (b.toNat : Int)) = id := by
  funext b
  simp
 rw [h, List.map_id]
theorem txt_sb (s : ByteArray) : txt (sb s) = s := by
 unfold txt
 rw [u8s_sb]
theorem clamp_size {n : Nat} (h : n ≤ 1000000000) : clampN (n : Int) = (n : Int) := by
 unfold clampN
 rw [if_neg (by omega), if_neg (by omega)]
theorem getText_back (ys r : List Int) (s : ByteArray) (hs : s.size ≤ 1000000000) : getText (ys ++ (tx s ++ r)) (ys.length : Int) = (s, (ys.length : Int) + (tx s).length, true) := by
 have hg := getNum_back ys (sb s ++ r) (s.size : Int)
 rw [clamp_size hs] at hg
 have e : ys ++ (tx s ++ r) = ys ++ (num (s.size : Int) ++ (sb s ++ r)) := by unfold tx; rw [List.append_assoc]
 rw [e]
 have hl : (ys ++ (num (s.size : Int) ++ (sb s ++ r))).length = ys.length + ((num (s.size : Int)).length + (s.size + r.length)) := by
  simp only [List.length_append, sb_len]
 have hg2 : getNum (ys ++ (num (s.size : Int) ++ (sb s ++ r))) (ys.length : Int) = ((s.size : Int), ((ys.length + (num (s.size : Int)).length : Nat) : Int), true) := by
  rw [hg]; simp
 have h := getText_yes hg2 (by rw [hl]; omega)
 rw [h]
 have hd : ((ys ++ (num (s.size : Int) ++ (sb s ++ r))).drop (ys.length + (num (s.size : Int)).length)).take s.size = sb s := by
  rw [← List.append_assoc, List.drop_append, List.drop_eq_nil_of_le (by simp), List.nil_append, show ys.length + (num (s.size : Int)).length - (ys ++ num (s.size : Int)).length = 0 by simp, List.drop_zero, List.take_append_of_le_length (by rw [sb_len]; exact Nat.le_refl _), List.take_of_length_le (by rw [sb_len]; exact Nat.le_refl _)]
 rw [hd, txt_sb]
 have ht : (tx s).length = (num (s.size : Int)).length + s.size := by unfold tx; rw [List.length_append, sb_len]
 rw [ht]
 simp only [Prod.mk.injEq, and_true, true_and]
 omega
theorem rd_back (l : List ByteArray) : ∀ (ys r : List Int), (∀ s ∈ l, s.size ≤ 1000000000) → rd (ys ++ (txs l ++ r)) l.length (ys.length : Int) = some (l, (ys.length : Int) + (txs l).length) := by
 induction l with
 | nil => intro ys r _; simp [rd, txs]
 | cons s t ih =>
  intro ys r hs
  have e : ys ++ (txs (s :: t) ++ r) = ys ++ (tx s ++ (txs t ++ r)) := by simp only [txs, List.append_assoc]
  have e2 : ys ++ (tx s ++ (txs t ++ r)) = (ys ++ tx s) ++ (txs t ++ r) := by simp only [List.append_assoc]
  rw [e, List.length_cons, rd_yes (getText_back ys (txs t ++ r) s (hs s (List.mem_cons_self ..))), e2]
  have h := ih (ys ++ tx s) r (fun x hx => hs x (List.mem_cons_of_mem _ hx))
  have e3 : ((ys ++ tx s).length : Int) = (ys.length : Int) + ((tx s).length : Int) := by rw [List.length_append]; omega
  rw [e3] at h
  rw [h]
  simp only [Option.map_some, txs, List.length_append, Option.some.injEq, Prod.mk.injEq, true_and]
  omega
theorem getTexts_back (ys r : List Int) (l : List ByteArray) (hl : l.length ≤ 200) (hs : ∀ s ∈ l, s.size ≤ 1000000000) :
  getTexts ((ys ++ num (l.length : Int) ++ txs l) ++ r) (ys.length : Int) = (l, ((ys ++ num (l.length : Int) ++ txs l).length : Int), true) := by
 have hg := getNum_back ys (txs l ++ r) (l.length : Int)
 rw [clamp_size (by omega)] at hg
 have e : (ys ++ num (l.length : Int) ++ txs l) ++ r = ys ++ (num (l.length : Int) ++ (txs l ++ r)) := by simp only [List.append_assoc]
 have e2 : ys ++ (num (l.length : Int) ++ (txs l ++ r)) = (ys ++ num (l.length : Int)) ++ (txs l ++ r) := by simp only [List.append_assoc]
 rw [e]
 have hr := rd_back l (ys ++ num (l.length : Int)) r hs
 rw [← e2] at hr
 have e3 : ((ys ++ num (l.length : Int)).length : Int) = (ys.length : Int) + ((num (l.length : Int)).length : Int) := by rw [List.length_append]; omega
 rw [e3] at hr
 rw [getTexts_some hg hl hr]
 simp only [List.length_append, Prod.mk.injEq, true_and, and_true]
 omega
end Go.Proofs.YtchonoonclllbabGreatDoor.Plain
