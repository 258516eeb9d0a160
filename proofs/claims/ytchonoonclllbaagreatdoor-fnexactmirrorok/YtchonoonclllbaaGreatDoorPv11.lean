/- Texts in one: Mi1, GetT, GetTs, SrA, SrC, Mg2, Mi2, Sz2, LgH. -/
import Derived.Test.YtchonoonclllbaaGreatDoorPv10
import Derived.Test.YtchonoonclllbaaGreatDoorPv6
import Derived.Test.YtchonoonclllbaaGreatDoorPv9
import Derived.Test.YtchonoonclllbaaGreatDoorPv2
import Derived.Test.YtchonoonclllbaaGreatDoorPv5
namespace Go.Proofs.YtchonoonclllbaaGreatDoor.Mi
open Go.RowKit Go.Proofs.YtchonoonclllbaaGreatDoor.Mem Go.Proofs.YtchonoonclllbaaGreatDoor.Sha Go.Proofs.YtchonoonclllbaaGreatDoor.Tr Go.Proofs.YtchonoonclllbaaGreatDoor.He Go.Proofs.YtchonoonclllbaaGreatDoor.Lg Go.Proofs.YtchonoonclllbaaGreatDoor.Sr Go.Proofs.YtchonoonclllbaaGreatDoor.Mg
set_option linter.unusedVariables false
structure Mr where
 id : Int
 st : Sto
 b : Hd
def known (t : List Hd) (h : Hd) : Bool := eqH h (headOf []) || signed t h
def mirrorOk (m : Mr) (t : List Hd) : Bool := decide (0 ≤ m.id ∧ m.id ≤ 20) && storeOk m.st && okH m.b && known t m.b && known t m.st.h
def another (m : Mr) (to : Int) : Bool := decide (0 ≤ to ∧ to ≤ 20) && !decide (to = m.id)
def answer (m : Mr) (w : Ms) : List Ms :=
 if w.h.n ≤ (m.st.l.length : Int) ∧ eqH w.h (headOf (m.st.l.take w.h.n.toNat)) = true then [⟨3, m.id, w.f, w.h, w.n, (m.st.l.take w.h.n.toNat).drop w.n.toNat⟩] else []
end Go.Proofs.YtchonoonclllbaaGreatDoor.Mi
namespace Go.Proofs.YtchonoonclllbaaGreatDoor.GetT
open Go.RowKit Go.Proofs.YtchonoonclllbaaGreatDoor.Mem Go.Proofs.YtchonoonclllbaaGreatDoor.Plain
set_option linter.unusedVariables false
theorem conv_none (ao : Option Addr) (c : Nat) (w : World) : (convert 22 9 (.slice ao 0 c)).run Tryz.prog w = .ok (.string ⟨#[]⟩) w := by
 cases ao with
 | none => rw [run_convert_bytes_string w 22 9 5 none 0 c Tryz.underlying22 Tryz.underlying5 Tryz.underlying9]; rfl
 | some a => exact run_convert_bytes_back w 22 9 5 a c [] Tryz.underlying22 Tryz.underlying5 Tryz.underlying9 (fun j hj => by simp at hj)
theorem conv_some {w : World} {xs : List Int} {b off p n c : Nat} (hb : Byt xs) (hcell : ∀ j, j < xs.length → w.cell? ⟨b, off + j, none⟩ = (bs xs)[j]?) (hn : p + n ≤ xs.length) :
  (convert 22 9 (.slice (some ⟨b, off + p, none⟩) n c)).run Tryz.prog w = .ok (.string (txt ((xs.drop p).take n))) w := by
 have hl : (u8s ((xs.drop p).take n)).length = n := by rw [u8s_len]; simp; omega
 have h := run_convert_bytes_back (P := Tryz.prog) w 22 9 5 ⟨b, off + p, none⟩ c (u8s ((xs.drop p).take n)) Tryz.underlying22 Tryz.underlying5 Tryz.underlying9 (fun j hj => by
  rw [hl] at hj
  rw [Addr.add_lit, Nat.add_assoc, hcell (p + j) (by omega), bs_get]
  have hx : xs[p + j]? = some (xs[p + j]'(by omega)) := by simp
  have hy := hb.at hx
  rw [hx]
  simp only [u8s, List.getElem_map, List.getElem_take, List.getElem_drop, Option.map_some]
  rw [u8_back hy])
 rw [hl] at h
 exact h
theorem rets {s s' : ByteArray} {b b' : Int} {c c' : Bool} (h1 : s = s') (h2 : b = b') (h3 : c = c') : Ending.returned (.tuple #[.string s, .int .i64 b, .bool c]) = .returned (.tuple #[.string s', .int .i64 b', .bool c']) := by rw [h1, h2, h3]
set_option maxRecDepth 1000000 in
set_option maxHeartbeats 1000000 in
theorem text_impl (w : World) (v : Value) (xs : List Int) (at_ : Int) (h : Sl w v (bs xs)) (hb : Byt xs) (hx : xs.length ≤ 140737488355328) (hlo : -9223372036854775808 ≤ at_) (hhi : at_ ≤ 9223372036854775807) :
  Calls Tryz.prog 188 #[v, .int .i64 at_] w fun e w' => e = .returned (.tuple #[.string (getText xs at_).1, .int .i64 (getText xs at_).2.1, .bool (getText xs at_).2.2]) ∧ w' = w := by
 have hget := Gets.get_impl w v xs at_ h hb hx hlo hhi
 obtain ⟨n, p, ok, hr⟩ : ∃ n p ok, getNum xs at_ = (n, p, ok) := ⟨_, _, _, rfl⟩
 rw [hr] at hget
 have HR : Hid (getNum xs at_ = (n, p, ok)) := hr
 clear hr
 obtain ⟨ao, cap, rfl, hc1, hnone, hr1⟩ := h
 rw [bs_len] at hr1 hc1 hget
 rw [bs_len]
 cases ok with
 | false =>
  have HG : Hid (getText xs at_ = (⟨#[]⟩, 0, false)) := getText_no HR.out (.inl rfl)
  go_enter Tryz.func188, Tryz.ntmps188
  go_wp2_with (go_at_call 186; refine hget.mono ?_; rintro e w' ⟨rfl, rfl⟩)
  go_ret3
  exact ⟨by rw [HG.out]; rfl, rfl⟩
 | true =>
  have hbd := getNum_bd HR.out
  obtain ⟨n, rfl⟩ := Int.eq_ofNat_of_zero_le hbd.1
  obtain ⟨p, rfl⟩ := Int.eq_ofNat_of_zero_le (show 0 ≤ p by omega)
  by_cases hbig : (xs.length : Int) - (p : Int) < (n : Int)
  ·
   have HG : Hid (getText xs at_ = (⟨#[]⟩, 0, false)) := getText_no HR.out (.inr hbig)
   go_enter Tryz.func188, Tryz.ntmps188
   go_wp2_with (go_at_call 186; refine hget.mono ?_; rintro e w' ⟨rfl, rfl⟩)
   go_ret3
   exact ⟨by rw [HG.out]; rfl, rfl⟩
  ·
   have HG : Hid (getText xs at_ = (txt ((xs.drop p).take n), (p : Int) + (n : Int), true)) := getText_yes HR.out (by omega)
   obtain ⟨b, off, rfl, hcell⟩ := hr1 (by omega)
   by_cases h0 : n = 0
   ·
    subst h0
    have hconv : ∀ ao c w, (convert 22 9 (.slice ao 0 c)).run Tryz.prog w = .ok (.string ⟨#[]⟩) w := conv_none
    have HT : Hid (txt ((xs.drop p).take 0) = ⟨#[]⟩) := rfl
    clear hr1 hcell
    go_enter Tryz.func188, Tryz.ntmps188
    go_wp2_with (go_at_call 186; refine hget.mono ?_; rintro e w' ⟨rfl, rfl⟩)
    all_goals go_ret3
    all_goals exact ⟨by rw [HG.out]; exact rets rfl (by dsimp only; omega) rfl, rfl⟩
   ·
    have hconv := conv_some (c := cap - p) hb hcell (show p + n ≤ xs.length by omega)
    clear hr1 hcell
    go_enter Tryz.func188, Tryz.ntmps188
    go_wp2_with (go_at_call 186; refine hget.mono ?_; rintro e w' ⟨rfl, rfl⟩)
    all_goals go_ret3
    all_goals exact ⟨by rw [HG.out]; exact rets rfl (by dsimp only) rfl, rfl⟩
set_option maxRecDepth 1000000 in
set_option maxHeartbeats 1000000 in
theorem text_spec (w : World) (v : Value) (xs : List Int) (at_ : Int) (h : Sl w v (bs xs)) (hb : Byt xs) (hx : xs.length ≤ 140737488355328) (hlo : -9223372036854775808 ≤ at_) (hhi : at_ ≤ 9223372036854775807) :
  Calls Tryz.prog 176 #[v, .int .i64 at_] w fun e w' => e = .returned (.tuple #[.string (getText xs at_).1, .int .i64 (getText xs at_).2.1, .bool (getText xs at_).2.2]) ∧ w' = w := by
 have hget := Gets.get_spec w v xs at_ h hb hx hlo hhi
 obtain ⟨n, p, ok, hr⟩ : ∃ n p ok, getNum xs at_ = (n, p, ok) := ⟨_, _, _, rfl⟩
 rw [hr] at hget
 have HR : Hid (getNum xs at_ = (n, p, ok)) := hr
 clear hr
 obtain ⟨ao, cap, rfl, hc1, hnone, hr1⟩ := h
 rw [bs_len] at hr1 hc1 hget
 rw [bs_len]
 cases ok with
 | false =>
  have HG : Hid (getText xs at_ = (⟨#[]⟩, 0, false)) := getText_no HR.out (.inl rfl)
  go_enter Tryz.func176, Tryz.ntmps176
  go_wp2_with (go_at_call 175; refine hget.mono ?_; rintro e w' ⟨rfl, rfl⟩)
  go_ret3
  exact ⟨by rw [HG.out]; rfl, rfl⟩
 | true =>
  have hbd := getNum_bd HR.out
  obtain ⟨n, rfl⟩ := Int.eq_ofNat_of_zero_le hbd.1
  obtain ⟨p, rfl⟩ := Int.eq_ofNat_of_zero_le (show 0 ≤ p by omega)
  by_cases hbig : (xs.length : Int) - (p : Int) < (n : Int)
  ·
   have HG : Hid (getText xs at_ = (⟨#[]⟩, 0, false)) := getText_no HR.out (.inr hbig)
   go_enter Tryz.func176, Tryz.ntmps176
   go_wp2_with (go_at_call 175; refine hget.mono ?_; rintro e w' ⟨rfl, rfl⟩)
   go_ret3
   exact ⟨by rw [HG.out]; rfl, rfl⟩
  ·
   have HG : Hid (getText xs at_ = (txt ((xs.drop p).take n), (p : Int) + (n : Int), true)) := getText_yes HR.out (by omega)
   obtain ⟨b, off, rfl, hcell⟩ := hr1 (by omega)
   by_cases h0 : n = 0
   ·
    subst h0
    have hconv : ∀ ao c w, (convert 22 9 (.slice ao 0 c)).run Tryz.prog w = .ok (.string ⟨#[]⟩) w := conv_none
    have HT : Hid (txt ((xs.drop p).take 0) = ⟨#[]⟩) := rfl
    clear hr1 hcell
    go_enter Tryz.func176, Tryz.ntmps176
    go_wp2_with (go_at_call 175; refine hget.mono ?_; rintro e w' ⟨rfl, rfl⟩)
    all_goals go_ret3
    all_goals exact ⟨by rw [HG.out]; exact rets rfl (by dsimp only; omega) rfl, rfl⟩
   ·
    have hconv := conv_some (c := cap - p) hb hcell (show p + n ≤ xs.length by omega)
    clear hr1 hcell
    go_enter Tryz.func176, Tryz.ntmps176
    go_wp2_with (go_at_call 175; refine hget.mono ?_; rintro e w' ⟨rfl, rfl⟩)
    all_goals go_ret3
    all_goals exact ⟨by rw [HG.out]; exact rets rfl (by dsimp only) rfl, rfl⟩
end Go.Proofs.YtchonoonclllbaaGreatDoor.GetT
namespace Go.Proofs.YtchonoonclllbaaGreatDoor.GetTs
open Go.RowKit Go.Proofs.YtchonoonclllbaaGreatDoor.Mem Go.Proofs.YtchonoonclllbaaGreatDoor.Plain Go.Proofs.YtchonoonclllbaaGreatDoor.Laws
set_option linter.unusedVariables false
theorem one_str (s : ByteArray) : ∀ u ∈ [Value.string s], u.oneCell' = true := by
 intro u hu
 rw [List.mem_singleton] at hu
 rw [hu]
 rfl
theorem Own.emptyS (w : World) (lo : Nat) (h : lo ≤ w.heap.size) : Own (w.alloc (.cells #[] 9)) lo (w.alloc (.cells #[] 9)).heap.size 9 (.slice (some ⟨w.heap.size, 0, none⟩) 0 0) (ss []) :=
 Own.of (World.ownsRow_lit w #[] 0 h (Nat.zero_le _) rfl)
theorem Own.nilS (w : World) (lo hi : Nat) : Own w lo hi 9 (.slice none 0 0) (ss []) :=
 ⟨World.ownsRow_nil w lo 9 1, fun g hg => by simp [Value.ownBlock] at hg⟩
def Done (xs : List Int) (at_ : Int) (w : World) (e : Ending) (w' : World) : Prop :=
 ∃ v' : Value, e = .returned (.tuple #[v', .int .i64 (getTexts xs at_).2.1, .bool (getTexts xs at_).2.2]) ∧ Own w' w.heap.size w'.heap.size 9 v' (ss (getTexts xs at_).1) ∧ Below w.heap.size w w'
theorem done_no {xs : List Int} {at_ : Int} {w w' : World} {v' : Value} (hg : getTexts xs at_ = ([], 0, false)) (ho : Own w' w.heap.size w'.heap.size 9 v' (ss [])) (hb : Below w.heap.size w w') :
  Done xs at_ w (.returned (.tuple #[v', .int .i64 0, .bool false])) w' := by
 unfold Done
 rw [hg]
 exact ⟨v', rfl, ho, hb⟩
theorem done_yes {xs : List Int} {at_ q : Int} {l : List ByteArray} {w w' : World} {v' : Value} (hg : getTexts xs at_ = (l, q, true)) (ho : Own w' w.heap.size w'.heap.size 9 v' (ss l)) (hb : Below w.heap.size w w') :
  Done xs at_ w (.returned (.tuple #[v', .int .i64 q, .bool true])) w' := by
 unfold Done
 rw [hg]
 exact ⟨v', rfl, ho, hb⟩
set_option maxRecDepth 1000000 in
set_option maxHeartbeats 2000000 in
theorem texts_impl (w : World) (v : Value) (xs : List Int) (at_ : Int) (h : Sl w v (bs xs)) (hb : Byt xs) (hx : xs.length ≤ 140737488355328) (hlo : -9223372036854775808 ≤ at_) (hhi : at_ ≤ 9223372036854775807) :
  Calls Tryz.prog 189 #[v, .int .i64 at_] w fun e w' => Done xs at_ w e w' := by
 obtain ⟨i0, hi, hz0, hz1, hz2⟩ := info_parts Strs.info9
 have hget := Gets.get_impl w v xs at_ h hb hx hlo hhi
 obtain ⟨n, p, ok, hr⟩ : ∃ n p ok, getNum xs at_ = (n, p, ok) := ⟨_, _, _, rfl⟩
 rw [hr] at hget
 have HR : Hid (getNum xs at_ = (n, p, ok)) := hr
 clear hr
 cases ok with
 | false =>
  have HG : Hid (getTexts xs at_ = ([], 0, false)) := getTexts_no HR.out (.inl rfl)
  go_enter Tryz.func189, Tryz.ntmps189
  go_wp2_with (go_at_call 186; refine hget.mono ?_; rintro e w' ⟨rfl, rfl⟩)
  go_ret3
  exact done_no HG.out (Own.nilS _ _ _) (Below.refl _ _)
 | true =>
  have hbd := getNum_bd HR.out
  obtain ⟨n, rfl⟩ := Int.eq_ofNat_of_zero_le hbd.1
  by_cases hbig : (200 : Int) < (n : Int)
  ·
   have HG : Hid (getTexts xs at_ = ([], 0, false)) := getTexts_no HR.out (.inr hbig)
   go_enter Tryz.func189, Tryz.ntmps189
   go_wp2_with (go_at_call 186; refine hget.mono ?_; rintro e w' ⟨rfl, rfl⟩)
   go_ret3
   exact done_no HG.out (Own.nilS _ _ _) (Below.refl _ _)
  ·
   have hn2 : n ≤ 200 := by omega
   have hlater : ∀ w', Below w.heap.size w w' → Sl w' v (bs xs) := fun w' hb => h.later hb
   go_enter Tryz.func189, Tryz.ntmps189
   go_wp2_with (first | (go_at_call 186; refine hget.mono ?_; rintro e wy ⟨rfl, hwy⟩; have hwy := hwy.symm; subst hwy) | (at_make; refine wpList_make_own _ rfl _ _ 24 rfl w.heap.size 9 i0 (.string ⟨#[]⟩) 1 Tryz.underlying24 hi hz0 hz1 _ _ _ n rfl rfl rfl (by rw [hz2]; omega) (by unfold maxLen; omega) (Nat.le_refl _) ?_))
   intro w1 hown hgrow
   have hbel : Below w.heap.size w w1 := (Below.refl _ _).grown hgrow (Nat.le_refl _) (by simp)
   have hown1 : Own w1 w.heap.size w1.heap.size 9 (.slice (some ⟨w.heap.size, 0, none⟩) 0 n) (ss []) := Own.of hown
   clear hget hgrow hown
   go_wp2
   go_loopw [8, 10, 30] (fun nx lv i wr => ∃ (k : Nat) (acc : List ByteArray) (q : Int), k ≤ n ∧ i = .int .i64 k ∧ nx = .int .i64 q ∧ 0 ≤ q ∧ q ≤ xs.length ∧ acc.length = k ∧ rd xs n p = (rd xs (n - k) q).map (fun r => (acc ++ r.1, r.2)) ∧ Own wr w.heap.size wr.heap.size 9 lv (ss acc) ∧ Below w.heap.size w wr) (fun _ _ i _ => n - (intOf i).toNat)
   case atStart => exact ⟨0, [], p, Nat.zero_le _, rfl, rfl, by omega, by omega, rfl, by simp, hown1, hbel⟩
   case round =>
    obtain ⟨k, acc, q, hk, rfl, rfl, hq0, hq1, hacc, hD0, ho, hbr⟩ := hrel
    have HD : Hid (acc.length = k ∧ rd xs n p = (rd xs (n - k) q).map (fun r => (acc ++ r.1, r.2))) := ⟨hacc, hD0⟩
    have hsz := hbr.size
    clear hD0 hacc hown1 hbel
    by_cases hlt : k < n
    ·
     have htxt := GetT.text_impl wr v xs q (hlater wr hbr) hb hx (by omega) (by omega)
     obtain ⟨s, q2, ok2, hr2⟩ : ∃ s q2 ok2, getText xs q = (s, q2, ok2) := ⟨_, _, _, rfl⟩
     rw [hr2] at htxt
     have HT : Hid (getText xs q = (s, q2, ok2)) := hr2
     clear hr2
     obtain ⟨m, hm⟩ : ∃ m, n - k = m + 1 := ⟨n - k - 1, by omega⟩
     cases ok2 with
     | false =>
      have HG : Hid (getTexts xs at_ = ([], 0, false)) := getTexts_none HR.out hn2 (by rw [HD.out.2, hm, rd_no HT.out]; rfl)
      clear HD hm
      go_wp2_with (go_at_call 188; refine htxt.mono ?_; rintro e wy ⟨rfl, hwy⟩; have hwy := hwy.symm; subst hwy)
      go_ret3
      exact done_no HG.out (Own.nilS _ _ _) hbr
     | true =>
      have hbt := getText_bd HT.out
      have HN : Hid ((acc ++ [s]).length = k + 1 ∧ rd xs n p = (rd xs (n - (k + 1)) q2).map (fun r => ((acc ++ [s]) ++ r.1, r.2))) := by
       refine ⟨by rw [List.length_append, HD.out.1]; rfl, ?_⟩
       rw [HD.out.2, hm, rd_yes HT.out, show n - (k + 1) = m by omega, Option.map_map]
       simp [Function.comp_def]
      have c2 : (ss acc).length + 1 ≤ maxLen := by rw [ss_len, HD.out.1]; unfold maxLen; omega
      have c3 : ((ss acc).length + 1) * 16 ≤ 140737488355328 := by rw [ss_len, HD.out.1]; omega
      have c4 : ∀ o, w.heap.size ≤ (wr.alloc o).heap.size := fun o => by simp; omega
      clear HD hm
      go_wp2_with (first | (go_at_call 188; refine htxt.mono ?_; rintro e wy ⟨rfl, hwy⟩; have hwy := hwy.symm; subst hwy) | (at_builtin; go_must (refine wpl_app _ rfl (.tmp 41) (.tmp 43) 24 rfl 9 i0 (.string ⟨#[]⟩) 16 Tryz.underlying24 hi hz0 hz1 hz2 rfl w.heap.size _ (ss acc) rfl (ho.alloc _) _ rfl [.string s] (Sl.one _ _ _) (one_str _) c2 c3 (c4 _) ?_); intro v3 w3 ho3 hb3 hg3))
      have hb4 : Below w.heap.size w w3 := (hbr.alloc hsz _).trans hb3
      have ho4 : Own w3 w.heap.size w3.heap.size 9 v3 (ss (acc ++ [s])) := by rw [ss_app]; exact ho3
      go_roundw
      case rel => exact ⟨k + 1, acc ++ [s], q2, by omega, by go_num, rfl, by omega, by omega, HN.out.1, HN.out.2, ho4, hb4⟩
      case measure => simp [intOf]; omega
    ·
     have hkn : k = n := by omega
     have HG : Hid (getTexts xs at_ = (acc, q, true)) := getTexts_some HR.out hn2 (by rw [HD.out.2, hkn, Nat.sub_self]; simp [rd])
     clear HD
     go_wp2
     go_ret3
     exact done_yes HG.out ho hbr
set_option maxRecDepth 1000000 in
set_option maxHeartbeats 2000000 in
theorem texts_spec (w : World) (v : Value) (xs : List Int) (at_ : Int) (h : Sl w v (bs xs)) (hb : Byt xs) (hx : xs.length ≤ 140737488355328) (hlo : -9223372036854775808 ≤ at_) (hhi : at_ ≤ 9223372036854775807) :
  Calls Tryz.prog 177 #[v, .int .i64 at_] w fun e w' => Done xs at_ w e w' := by
 obtain ⟨i0, hi, hz0, hz1, hz2⟩ := info_parts Strs.info9
 have hget := Gets.get_spec w v xs at_ h hb hx hlo hhi
 obtain ⟨n, p, ok, hr⟩ : ∃ n p ok, getNum xs at_ = (n, p, ok) := ⟨_, _, _, rfl⟩
 rw [hr] at hget
 have HR : Hid (getNum xs at_ = (n, p, ok)) := hr
 clear hr
 cases ok with
 | false =>
  have HG : Hid (getTexts xs at_ = ([], 0, false)) := getTexts_no HR.out (.inl rfl)
  go_enter Tryz.func177, Tryz.ntmps177
  go_wp2_with (go_at_call 175; refine hget.mono ?_; rintro e w' ⟨rfl, rfl⟩)
  go_ret3
  exact done_no HG.out (Own.emptyS _ _ (Nat.le_refl _)) ((Below.refl _ _).alloc (Nat.le_refl _) _)
 | true =>
  have hbd := getNum_bd HR.out
  obtain ⟨n, rfl⟩ := Int.eq_ofNat_of_zero_le hbd.1
  by_cases hbig : (200 : Int) < (n : Int)
  ·
   have HG : Hid (getTexts xs at_ = ([], 0, false)) := getTexts_no HR.out (.inr hbig)
   go_enter Tryz.func177, Tryz.ntmps177
   go_wp2_with (go_at_call 175; refine hget.mono ?_; rintro e w' ⟨rfl, rfl⟩)
   go_ret3
   exact done_no HG.out (Own.emptyS _ _ (Nat.le_refl _)) ((Below.refl _ _).alloc (Nat.le_refl _) _)
  ·
   have hn2 : n ≤ 200 := by omega
   have hlater : ∀ w', Below w.heap.size w w' → Sl w' v (bs xs) := fun w' hb => h.later hb
   go_enter Tryz.func177, Tryz.ntmps177
   go_wp2_with (go_at_call 175; refine hget.mono ?_; rintro e wy ⟨rfl, hwy⟩; have hwy := hwy.symm; subst hwy)
   have hbel : Below w.heap.size w (w.alloc (.cells #[] 9)) := (Below.refl _ _).alloc (Nat.le_refl _) _
   have hown1 := Own.emptyS w w.heap.size (Nat.le_refl _)
   clear hget
   go_loopw [8, 10, 11] (fun nx lv i wr => ∃ (k : Nat) (acc : List ByteArray) (q : Int), k ≤ n ∧ i = .int .i64 k ∧ nx = .int .i64 q ∧ 0 ≤ q ∧ q ≤ xs.length ∧ acc.length = k ∧ rd xs n p = (rd xs (n - k) q).map (fun r => (acc ++ r.1, r.2)) ∧ Own wr w.heap.size wr.heap.size 9 lv (ss acc) ∧ Below w.heap.size w wr) (fun _ _ i _ => n - (intOf i).toNat)
   case atStart => exact ⟨0, [], p, Nat.zero_le _, rfl, rfl, by omega, by omega, rfl, by simp, hown1, hbel⟩
   case round =>
    obtain ⟨k, acc, q, hk, rfl, rfl, hq0, hq1, hacc, hD0, ho, hbr⟩ := hrel
    have HD : Hid (acc.length = k ∧ rd xs n p = (rd xs (n - k) q).map (fun r => (acc ++ r.1, r.2))) := ⟨hacc, hD0⟩
    have hsz := hbr.size
    clear hD0 hacc hown1 hbel
    by_cases hlt : k < n
    ·
     have htxt := GetT.text_spec wr v xs q (hlater wr hbr) hb hx (by omega) (by omega)
     obtain ⟨s, q2, ok2, hr2⟩ : ∃ s q2 ok2, getText xs q = (s, q2, ok2) := ⟨_, _, _, rfl⟩
     rw [hr2] at htxt
     have HT : Hid (getText xs q = (s, q2, ok2)) := hr2
     clear hr2
     obtain ⟨m, hm⟩ : ∃ m, n - k = m + 1 := ⟨n - k - 1, by omega⟩
     cases ok2 with
     | false =>
      have HG : Hid (getTexts xs at_ = ([], 0, false)) := getTexts_none HR.out hn2 (by rw [HD.out.2, hm, rd_no HT.out]; rfl)
      clear HD hm
      go_wp2_with (go_at_call 176; refine htxt.mono ?_; rintro e wy ⟨rfl, hwy⟩; have hwy := hwy.symm; subst hwy)
      go_ret3
      exact done_no HG.out (Own.emptyS _ _ hsz) (hbr.alloc hsz _)
     | true =>
      have hbt := getText_bd HT.out
      have HN : Hid ((acc ++ [s]).length = k + 1 ∧ rd xs n p = (rd xs (n - (k + 1)) q2).map (fun r => ((acc ++ [s]) ++ r.1, r.2))) := by
       refine ⟨by rw [List.length_append, HD.out.1]; rfl, ?_⟩
       rw [HD.out.2, hm, rd_yes HT.out, show n - (k + 1) = m by omega, Option.map_map]
       simp [Function.comp_def]
      have c2 : (ss acc).length + 1 ≤ maxLen := by rw [ss_len, HD.out.1]; unfold maxLen; omega
      have c3 : ((ss acc).length + 1) * 16 ≤ 140737488355328 := by rw [ss_len, HD.out.1]; omega
      have c4 : ∀ o, w.heap.size ≤ (wr.alloc o).heap.size := fun o => by simp; omega
      clear HD hm
      go_wp2_with (first | (go_at_call 176; refine htxt.mono ?_; rintro e wy ⟨rfl, hwy⟩; have hwy := hwy.symm; subst hwy) | (at_builtin; go_must (refine wpl_app _ rfl (.tmp 45) (.tmp 47) 24 rfl 9 i0 (.string ⟨#[]⟩) 16 Tryz.underlying24 hi hz0 hz1 hz2 rfl w.heap.size _ (ss acc) rfl (ho.alloc _) _ rfl [.string s] (Sl.one _ _ _) (one_str _) c2 c3 (c4 _) ?_); intro v3 w3 ho3 hb3 hg3))
      have hb4 : Below w.heap.size w w3 := (hbr.alloc hsz _).trans hb3
      have ho4 : Own w3 w.heap.size w3.heap.size 9 v3 (ss (acc ++ [s])) := by rw [ss_app]; exact ho3
      go_roundw
      case rel => exact ⟨k + 1, acc ++ [s], q2, by omega, by go_num, rfl, by omega, by omega, HN.out.1, HN.out.2, ho4, hb4⟩
      case measure => simp [intOf]; omega
    ·
     have hkn : k = n := by omega
     have HG : Hid (getTexts xs at_ = (acc, q, true)) := getTexts_some HR.out hn2 (by rw [HD.out.2, hkn, Nat.sub_self]; simp [rd])
     clear HD
     go_wp2
     go_ret3
     exact done_yes HG.out ho hbr
end Go.Proofs.YtchonoonclllbaaGreatDoor.GetTs
namespace Go.Proofs.YtchonoonclllbaaGreatDoor.Sr
open Go.RowKit Go.Proofs.YtchonoonclllbaaGreatDoor.Mem Go.Proofs.YtchonoonclllbaaGreatDoor.Laws Go.Proofs.YtchonoonclllbaaGreatDoor.Bytes Go.Proofs.YtchonoonclllbaaGreatDoor.Sha Go.Proofs.YtchonoonclllbaaGreatDoor.Tr Go.Proofs.YtchonoonclllbaaGreatDoor.He Go.Proofs.YtchonoonclllbaaGreatDoor.Lg
set_option linter.unusedVariables false
set_option linter.unusedSimpArgs false
theorem dig4 (Y : List Int) : (Plain.txt (digest Y)).size = 32 ∧ ((Plain.txt (digest Y)).extract 0 4).size = 4 ∧ sb ((Plain.txt (digest Y)).extract 0 4) = sum4 Y := by
 have h32 : (Plain.txt (digest Y)).size = 32 := by rw [txt_size, digest_len]
 have e : sb (Plain.txt (digest Y)) = digest Y := sb_txt (digest_byt Y)
 have e2 : sb ((Plain.txt (digest Y)).extract 0 4) = (sb (Plain.txt (digest Y))).take 4 := by
  unfold sb
  rw [ByteArray.data_extract, Array.toList_extract, ← List.map_take]
  simp [List.extract]
 refine ⟨h32, ?_, ?_⟩
 ·
  have h4 : (sb ((Plain.txt (digest Y)).extract 0 4)).length = 4 := by rw [e2, e, List.length_take, digest_len]; rfl
  rw [sb_len] at h4
  exact h4
 ·
  rw [e2, e]; rfl
def sc (v : Value) (h : Hd) (b : Value) (s : Int) : Array Value := #[v, .int .i64 h.n, .string h.r, b, .int .i64 s]
theorem sizeS (v : Value) (h : Hd) (b : Value) (s : Int) : (Tryz.prog.info? 30).map (·.size) = some (sc v h b s).size := by
 show _ = some 5
 kernel_rfl
theorem oneS {v b : Value} (h : Hd) (s : Int) (hv : v.oneCell' = true) (hb : b.oneCell' = true) : (sc v h b s).all (·.oneCell') = true := by
 simp [sc, Value.oneCell']
 exact ⟨hv, hb⟩
end Go.Proofs.YtchonoonclllbaaGreatDoor.Sr
namespace Go.Proofs.YtchonoonclllbaaGreatDoor.Mg
open Go.RowKit Go.Proofs.YtchonoonclllbaaGreatDoor.Mem Go.Proofs.YtchonoonclllbaaGreatDoor.Laws Go.Proofs.YtchonoonclllbaaGreatDoor.Bytes Go.Proofs.YtchonoonclllbaaGreatDoor.Sha Go.Proofs.YtchonoonclllbaaGreatDoor.Tr Go.Proofs.YtchonoonclllbaaGreatDoor.He
set_option linter.unusedVariables false
set_option linter.unusedSimpArgs false
def mc (m : Ms) (v : Value) : Array Value := #[.int .i64 m.k, .int .i64 m.f, .int .i64 m.t, .int .i64 m.h.n, .string m.h.r, .int .i64 m.n, v]
end Go.Proofs.YtchonoonclllbaaGreatDoor.Mg
namespace Go.Proofs.YtchonoonclllbaaGreatDoor.Mi
open Go.RowKit Go.Proofs.YtchonoonclllbaaGreatDoor.Mem Go.Proofs.YtchonoonclllbaaGreatDoor.Laws Go.Proofs.YtchonoonclllbaaGreatDoor.Bytes Go.Proofs.YtchonoonclllbaaGreatDoor.Sha Go.Proofs.YtchonoonclllbaaGreatDoor.Tr Go.Proofs.YtchonoonclllbaaGreatDoor.He Go.Proofs.YtchonoonclllbaaGreatDoor.Lg Go.Proofs.YtchonoonclllbaaGreatDoor.Sr Go.Proofs.YtchonoonclllbaaGreatDoor.Mg
set_option linter.unusedVariables false
set_option linter.unusedSimpArgs false
def mq (id : Int) (v : Value) (h : Hd) (b : Value) (s : Int) (g : Hd) : Array Value := #[.int .i64 id, v, .int .i64 h.n, .string h.r, b, .int .i64 s, .int .i64 g.n, .string g.r]
theorem sizeQ (id : Int) (v : Value) (h : Hd) (b : Value) (s : Int) (g : Hd) : (Tryz.prog.info? 32).map (·.size) = some (mq id v h b s g).size := by
 show _ = some 8
 kernel_rfl
theorem oneQ {v b : Value} (id : Int) (h : Hd) (s : Int) (g : Hd) (hv : v.oneCell' = true) (hb : b.oneCell' = true) : (mq id v h b s g).all (·.oneCell') = true := by
 simp [mq, Value.oneCell']
 exact ⟨hv, hb⟩
end Go.Proofs.YtchonoonclllbaaGreatDoor.Mi
namespace Go.Proofs.YtchonoonclllbaaGreatDoor.Strs
open Go.RowKit Go.Proofs.YtchonoonclllbaaGreatDoor.Mem Go.Proofs.YtchonoonclllbaaGreatDoor.Laws Go.Proofs.YtchonoonclllbaaGreatDoor.Bytes
set_option linter.unusedVariables false
set_option linter.unusedSimpArgs false
set_option maxRecDepth 1000000 in
set_option maxHeartbeats 400000 in
theorem sz_any2 (w : World) (v : Value) (l : List ByteArray) (left : Nat) (h : Sl w v (ss l)) (hs : ∀ s ∈ l, s.size ≤ 9223372036854775807) (hx : l.length ≤ 9223372036854775807) (hlf : left ≤ 1048576) :
  Calls Tryz.prog 164 #[v, .int .i64 (left : Int)] w fun e w' => (∃ r : Int, e = .returned (.int .i64 r) ∧ (r < 0 ∨ (l.length + Puts.tot l ≤ left ∧ 0 ≤ r ∧ r ≤ left))) ∧ w = w' := by
 obtain ⟨ao, cap, rfl, hc1, _, hr1⟩ := h
 rw [ss_len] at hr1 hc1
 rw [ss_len]
 by_cases hbig : left < l.length
 ·
  go_enter Tryz.func164, Tryz.ntmps164
  go_wp2
  go_ret
  exact ⟨⟨_, rfl, .inl (by decide)⟩, rfl⟩
 ·
  go_enter Tryz.func164, Tryz.ntmps164
  go_wp2
  go_loop [1, 5] (fun lf i => ∃ (k m : Nat), k ≤ l.length ∧ i = .int .i64 k ∧ lf = .int .i64 (m : Int) ∧ m + l.length + Puts.tot (l.take k) = left) (fun _ i => l.length - (intOf i).toNat)
  case atStart => exact ⟨0, left - l.length, Nat.zero_le _, rfl, congrArg (Value.int .i64) (by omega), by simp [Puts.tot]; omega⟩
  case round =>
   obtain ⟨k, m, hk, rfl, rfl, hm⟩ := hrel
   have HM : Hid (m + l.length + Puts.tot (l.take k) = left) := hm
   have hmb : m ≤ 1048576 := by omega
   clear hm
   by_cases hlt : k < l.length
   ·
    obtain ⟨b, off, s, rfl, hx0, hcell⟩ := Sl.strAt hr1 rfl hlt
    have hsz := hs s (List.mem_of_getElem? hx0)
    have HT : Hid (Puts.tot (l.take (k + 1)) = Puts.tot (l.take k) + s.size) := tot_take l k s hx0
    clear hx0 hr1 hs
    by_cases hneg : m < s.size
    ·
     go_wp2
     go_ret
     exact ⟨⟨_, rfl, .inl (by decide)⟩, rfl⟩
    ·
     go_wp2
     go_round
     case rel => exact ⟨k + 1, m - s.size, by omega, by go_num, congrArg (Value.int .i64) (by omega), by have := HM.out; have := HT.out; omega⟩
     case measure => simp [intOf]; omega
   ·
    go_wp2
    go_ret
    refine ⟨⟨_, rfl, .inr ⟨?_, ?_, ?_⟩⟩, rfl⟩
    ·
     have h1 := HM.out
     rw [List.take_of_length_le (by omega)] at h1
     omega
    ·
     show (0 : Int) ≤ (m : Int)
     omega
    ·
     have h1 := HM.out
     show (m : Int) ≤ (left : Int)
     omega
end Go.Proofs.YtchonoonclllbaaGreatDoor.Strs
namespace Go.Proofs.YtchonoonclllbaaGreatDoor.Lg
open Go.RowKit Go.Proofs.YtchonoonclllbaaGreatDoor.Mem Go.Proofs.YtchonoonclllbaaGreatDoor.Laws Go.Proofs.YtchonoonclllbaaGreatDoor.Bytes Go.Proofs.YtchonoonclllbaaGreatDoor.Sha Go.Proofs.YtchonoonclllbaaGreatDoor.Tr Go.Proofs.YtchonoonclllbaaGreatDoor.He
set_option linter.unusedVariables false
set_option linter.unusedSimpArgs false
theorem alloc3_new (w : World) (A B C : Obj) : (((w.alloc A).alloc B).alloc C).heap[w.heap.size + 1 + 1]? = some C := by
 have h := heap_alloc_new ((w.alloc A).alloc B) C
 simpa using h
set_option maxRecDepth 1000000 in
set_option maxHeartbeats 2000000 in
theorem to_log (w : World) (v : Value) (l : List ByteArray) (h : Hd) (hs : Sl w v (ss l)) (hl : l.length ≤ 1000000000000) :
  Calls Tryz.prog 123 #[.agg #[v, .int .i64 h.n, .string h.r]] w fun e w' => ∃ v', e = .returned (.agg #[v', .int .i64 h.n, .string h.r]) ∧ Own w' w.heap.size w'.heap.size 9 v' (ss l) ∧ Below w.heap.size w w' := by
 obtain ⟨W, hW⟩ : ∃ W, W = ((w.alloc (.cells #[v, .int .i64 h.n, .string h.r] 59)).alloc (.cells #[.slice none 0 0, .int .i64 0, .string ⟨#[]⟩] 28)).alloc (.cells #[.slice none 0 0, .int .i64 0, .string ⟨#[]⟩] 28) := ⟨_, rfl⟩
 have z0 : W.heap.size = w.heap.size + 3 := by rw [hW]; simp
 have r0 : W.heap[w.heap.size]? = some (.cells #[v, .int .i64 h.n, .string h.r] 59 (0, 0)) := by rw [hW, heap_alloc_old _ _ (by simp; omega)]; exact heap_alloc2_old w _ _
 have r1 : W.heap[w.heap.size + 1]? = some (.cells (lc (.slice none 0 0) hd0) 28 (0, 0)) := by rw [hW, heap_alloc_old _ _ (by simp)]; exact heap_alloc2_new w _ _
 have r2 : W.heap[w.heap.size + 1 + 1]? = some (.cells (lc (.slice none 0 0) hd0) 28 (0, 0)) := by rw [hW]; exact alloc3_new w _ _ _
 have hB : Below w.heap.size w W := by rw [hW]; exact (((Below.refl _ _).alloc (Nat.le_refl _) _).alloc (by simp) _).alloc (by simp; omega) _
 have q := Strs.to_s W v l (hs.later hB) hl
 have HR0 : Hid _ := r0
 have HR1 : Hid _ := r1
 have HR2 : Hid _ := r2
 have HB : Hid _ := hB
 have HZ : Hid _ := z0
 have HW : Hid _ := hW
 obtain ⟨ao, cap, rfl, hcap⟩ := hs.form
 rw [ss_len] at *
 clear hW r0 r1 r2 hB z0 hs
 go_enter Tryz.func123, Tryz.ntmps123
 go_wp2_with fail
 rw [← HW.out]
 refine q.mono ?_
 rintro e w4 ⟨v', rfl, o4, b4⟩
 obtain ⟨ao4, L4, cap4, rfl, _, _⟩ := o4.form
 have R0 := rowKeep HR0.out b4
 have R1 := rowKeep HR1.out b4
 have R2 := rowKeep HR2.out b4
 have B4 : Below w.heap.size w w4 := HB.out.trans (b4.mono HB.out.size)
 have k0 : w4.cell? ⟨w.heap.size + 1 + 1, 0, none⟩ = some (.slice none 0 0) := row_at R2 0
 have f0 : w4.frozen? ⟨w.heap.size + 1 + 1, 0, none⟩ = false := row_free R2 0
 obtain ⟨X, hX, S0, S1, S2, SB, SO, SZ⟩ : ∃ X, Hid (w4.setCell ⟨w.heap.size + 1 + 1, 0, none⟩ (.slice ao4 L4 cap4) = X) ∧ X.heap[w.heap.size]? = some (.cells #[.slice ao l.length cap, .int .i64 h.n, .string h.r] 59 (0, 0)) ∧ Hid (X.heap[w.heap.size + 1]? = some (.cells (lc (.slice none 0 0) hd0) 28 (0, 0))) ∧ Hid (X.heap[w.heap.size + 1 + 1]? = some (.cells (lc (.slice ao4 L4 cap4) hd0) 28 (0, 0))) ∧ Hid (Below w.heap.size w X) ∧ Hid (Own X W.heap.size X.heap.size 9 (.slice ao4 L4 cap4) (ss l)) ∧ W.heap.size ≤ X.heap.size := by
  have hz := HZ.out
  refine ⟨_, rfl, ?_, ?_, ?_, ?_, ?_, ?_⟩
  ·
   exact (Below.heap_setCell _ _ _ _ (by show w.heap.size ≠ w.heap.size + 1 + 1; omega)).trans R0
  ·
   exact (Below.heap_setCell _ _ _ _ (by show w.heap.size + 1 ≠ w.heap.size + 1 + 1; omega)).trans R1
  ·
   exact row_set R2 0 _
  ·
   exact B4.setCell (p := ⟨w.heap.size + 1 + 1, 0, none⟩) (by show _ ≤ w.heap.size + 1 + 1; omega) _
  ·
   exact (Own.setCell o4 _ (by omega)).mono (Nat.le_refl _) (by simp [World.setCell])
  ·
   simp [World.setCell]; exact b4.size
 have c1 : X.cell? ⟨w.heap.size, 1, none⟩ = some (.int .i64 h.n) := row_at S0 1
 have c2 : X.cell? ⟨w.heap.size, 2, none⟩ = some (.string h.r) := row_at S0 2
 have qh := to_head X h
 rw [← hX.out] at qh c1 c2
 clear R0 R1 R2 o4 B4 q HB HR1 HR2 HR0 HW b4 S0
 go_wp2_with fail
 refine qh.mono ?_
 rw [hX.out]
 rintro e w6 ⟨rfl, b6⟩
 have T1 := rowKeep S1.out b6
 have T2 := rowKeep S2.out b6
 have TB : Below w.heap.size w w6 := SB.out.trans (b6.mono SB.out.size)
 have TO : Hid (Own w6 W.heap.size X.heap.size 9 (.slice ao4 L4 cap4) (ss l)) := Own.later SO.out b6 (Nat.le_refl _)
 have b6s := b6.size
 have th : w6.there (w.heap.size + 1 + 1) 1 2 := there_row T2 (by show _ ≤ 3; omega)
 obtain ⟨Y, HY, Y1, Y2, YB, YO, YZ⟩ : ∃ Y, Hid (w6.setCells (w.heap.size + 1 + 1) 1 (hc h).toList = Y) ∧ Hid (Y.heap[w.heap.size + 1]? = some (.cells (lc (.slice none 0 0) hd0) 28 (0, 0))) ∧ Hid (Y.heap[w.heap.size + 1 + 1]? = some (.cells (lc (.slice ao4 L4 cap4) h) 28 (0, 0))) ∧ Hid (Below w.heap.size w Y) ∧ Hid (Own Y W.heap.size X.heap.size 9 (.slice ao4 L4 cap4) (ss l)) ∧ X.heap.size ≤ Y.heap.size := by
  have hz := HZ.out
  refine ⟨_, rfl, ?_, ?_, ?_, ?_, ?_⟩
  ·
   exact (heap_setCells_other (w.heap.size + 1 + 1) (w.heap.size + 1) (by omega) _ _ w6).trans T1
  ·
   exact heap_setCells _ _ _ w6 (lc (.slice ao4 L4 cap4) hd0).toList _ T2
  ·
   exact below_setCells (by omega) _ _ w6 TB
  ·
   exact Own.keep TO.out (fun k hk1 hk2 => heap_setCells_other (w.heap.size + 1 + 1) k (by omega) _ _ w6)
  ·
   rw [size_setCells]; exact b6s
 clear T1 T2 TB TO qh b6 S1 S2 SB SO hX c1 c2
 go_wp2_with (first | (refine wpList_store_mid rfl 26 _ _ rfl (w.heap.size + 1 + 1) 1 (hc h) rfl rfl th (sizeH _) (oneH _) ?_; rw [HY.out]) | (refine wpList_load_row rfl 28 _ rfl (w.heap.size + 1 + 1) rfl 28 (lc (.slice ao4 L4 cap4) h) (0, 0) _ Y2.out Tryz.underlying28 rfl (sizeL _ _) ?_) | (refine wpList_store_row rfl 28 _ _ rfl (w.heap.size + 1) (lc (.slice ao4 L4 cap4) h) rfl rfl 28 _ Y1.out (sizeL _ _) rfl (oneL _ rfl) ?_))
 refine bodyPost_ret (v := .agg (lc (.slice ao4 L4 cap4) h)) (results_cell_row rfl _ _ (w.heap.size + 1) 28 _ (0, 0) _ rfl (setRow_heap _ _ _ _ _ (0, 0) Y1.out) Tryz.underlying28 rfl (sizeL _ _)) rfl ⟨_, rfl, ?_, below_setRow YB.out (by omega) _⟩
 have hz := HZ.out
 exact (Own.setRow YO.out _ (by omega)).mono (by omega) (by simp; omega)
set_option maxRecDepth 1000000 in
set_option maxHeartbeats 2000000 in
theorem sz_log (w : World) (v : Value) (l : List ByteArray) (h : Hd) (left : Nat) (hs : Sl w v (ss l)) (hz : ∀ s ∈ l, s.size ≤ 9223372036854775807) (hx : l.length ≤ 9223372036854775807) (hr : h.r.size ≤ 9223372036854775807) (hlf : left ≤ 1048576) :
  Calls Tryz.prog 121 #[.agg #[v, .int .i64 h.n, .string h.r], .int .i64 (left : Int)] w fun e w' => (∃ r : Int, e = .returned (.int .i64 r) ∧ (r < 0 ∨ (l.length + Puts.tot l ≤ left ∧ h.r.size ≤ left ∧ 0 ≤ r ∧ r ≤ left))) ∧ Below w.heap.size w w' := by
 have hB : Below w.heap.size w (w.alloc (.cells #[v, .int .i64 h.n, .string h.r] 59)) := (Below.refl _ _).alloc (Nat.le_refl _) _
 have q := Strs.sz_any2 (w.alloc (.cells #[v, .int .i64 h.n, .string h.r] 59)) v l left (hs.later hB) hz hx hlf
 have HB : Hid _ := hB
 obtain ⟨ao, cap, rfl, hcap⟩ := hs.form
 rw [ss_len] at *
 clear hB hs
 go_enter Tryz.func121, Tryz.ntmps121
 go_wp2_with fail
 refine q.mono ?_
 rintro e WX ⟨⟨r, rfl, hr0⟩, hWX⟩
 subst hWX
 clear q
 by_cases h0 : r < 0
 ·
  go_wp2
  go_ret
  exact ⟨⟨-1, rfl, .inl (by omega)⟩, HB.out⟩
 ·
  rcases hr0 with hr0 | ⟨hr1, hr2, hr3⟩
  ·
   exact absurd hr0 h0
  have qh : ∀ W, _ := fun W => sz_head W h r hr hr2 (by omega)
  by_cases hb : r - (h.r.size : Int) < 0
  ·
   simp only [if_pos hb] at qh
   go_wp2_with fail
   refine (qh _).mono ?_
   rintro e w2 ⟨rfl, b2⟩
   have B2 : Below w.heap.size w w2 := HB.out.trans (b2.mono HB.out.size)
   clear qh
   go_wp2
   go_ret
   exact ⟨⟨-1, rfl, .inl (by omega)⟩, B2⟩
  ·
   simp only [if_neg hb] at qh
   have hle : h.r.size ≤ left := by omega
   obtain ⟨m, hm⟩ : ∃ m, r - (h.r.size : Int) = m := ⟨_, rfl⟩
   have hm2 : 0 ≤ m ∧ m ≤ (left : Int) := by omega
   rw [hm] at hb
   simp only [hm] at qh
   clear hm
   go_wp2_with fail
   refine (qh _).mono ?_
   rintro e w2 ⟨rfl, b2⟩
   have B2 : Below w.heap.size w w2 := HB.out.trans (b2.mono HB.out.size)
   clear qh
   go_wp2
   go_ret
   exact ⟨⟨m, rfl, .inr ⟨hr1, hle, hm2.1, hm2.2⟩⟩, B2⟩
set_option maxRecDepth 1000000 in
set_option maxHeartbeats 2000000 in
theorem eq_log (w : World) (h : Hd) (v1 v2 : Value) (l : List ByteArray) (h1 : Sl w v1 (ss l)) (h2 : Sl w v2 (ss l)) (hl : l.length ≤ 1000000000000) :
  Calls Tryz.prog 125 #[.agg #[v1, .int .i64 h.n, .string h.r], .agg #[v2, .int .i64 h.n, .string h.r]] w fun e w' => e = .returned (.bool true) ∧ Below w.heap.size w w' := by
 obtain ⟨W, hW, r0, r1, HB⟩ : ∃ W, Hid ((w.alloc (.cells #[v1, .int .i64 h.n, .string h.r] 28)).alloc (.cells #[v2, .int .i64 h.n, .string h.r] 28) = W) ∧ W.heap[w.heap.size]? = some (.cells #[v1, .int .i64 h.n, .string h.r] 28 (0, 0)) ∧ W.heap[w.heap.size + 1]? = some (.cells #[v2, .int .i64 h.n, .string h.r] 28 (0, 0)) ∧ Hid (Below w.heap.size w W) := ⟨_, rfl, heap_alloc2_old w _ _, heap_alloc2_new w _ _, ((Below.refl _ _).alloc (Nat.le_refl _) _).alloc (by simp) _⟩
 have q := Strs.eqs_true W v1 v2 l (h1.later HB.out) (h2.later HB.out) hl
 obtain ⟨ao, cap, rfl, hcap⟩ := h1.form
 obtain ⟨ao2, cap2, rfl, hcap2⟩ := h2.form
 rw [ss_len] at *
 have qh : ∀ W', _ := fun W' => eq_head W' h
 have q' := q
 rw [← hW.out] at q'
 clear h1 h2 q
 go_enter Tryz.func125, Tryz.ntmps125
 go_wp2_with fail
 refine q'.mono ?_
 rw [hW.out]
 rintro e w1 ⟨rfl, b1, _⟩
 have s0 := rowKeep r0 (b1 _)
 have s1 := rowKeep r1 (b1 _)
 have c1 : w1.cell? ⟨w.heap.size, 1, none⟩ = some (.int .i64 h.n) := row_at s0 1
 have c2 : w1.cell? ⟨w.heap.size, 2, none⟩ = some (.string h.r) := row_at s0 2
 have d1 : w1.cell? ⟨w.heap.size + 1, 1, none⟩ = some (.int .i64 h.n) := row_at s1 1
 have d2 : w1.cell? ⟨w.heap.size + 1, 2, none⟩ = some (.string h.r) := row_at s1 2
 have HB1 : Hid (Below w.heap.size w w1) := HB.out.trans ((b1 _).mono HB.out.size)
 clear q' b1 HB s0 s1 r0 r1
 go_wp2_with fail
 refine (qh _).mono ?_
 rintro e w2 ⟨rfl, b2⟩
 have HB2 : Hid (Below w.heap.size w w2) := HB1.out.trans (b2.mono HB1.out.size)
 clear qh b2 HB1
 go_wp2
 go_ret
 exact ⟨rfl, HB2.out⟩
end Go.Proofs.YtchonoonclllbaaGreatDoor.Lg
