/- Contracts of GetTexts, the program's and the specification's: both answer 'getTexts' of the bytes; the list lies in new memory; nothing old is turned. -/
import Derived.Test.YteemblfjghnooaaGetT
import Derived.Test.YteemblfjghnooaaStrs
import Derived.Test.YteemblfjghnooaaLaws
namespace Go.Proofs.Yteemblfjghnooaa.GetTs
open Go.RowKit Go.Proofs.Yteemblfjghnooaa.Mem Go.Proofs.Yteemblfjghnooaa.Plain Go.Proofs.Yteemblfjghnooaa.Laws
set_option linter.unusedVariables false

theorem one_str (s : ByteArray) : ∀ u ∈ [Value.string s], u.oneCell' = true := by
  intro u hu
  rw [List.mem_singleton] at hu
  rw [hu]
  rfl

theorem Own.emptyS (w : World) (lo : Nat) (h : lo ≤ w.heap.size) : Own (w.alloc (.cells #[] 9)) lo (w.alloc (.cells #[] 9)).heap.size 9 (.slice (some ⟨w.heap.size, 0, none⟩) 0 0) (ss []) :=
  Own.of (World.ownsRow_lit w #[] 0 h (Nat.zero_le _) rfl)
theorem Own.nilS (w : World) (lo hi : Nat) : Own w lo hi 9 (.slice none 0 0) (ss []) :=
  ⟨World.ownsRow_nil w lo 9 1, fun g hg => by simp [Value.ownBlock] at hg⟩

/-- What GetTexts answers, and what of the world it leaves. -/
def Done (xs : List Int) (at_ : Int) (w : World) (e : Ending) (w' : World) : Prop :=
  ∃ v' : Value, e = .returned (.tuple #[v', .int .i64 (getTexts xs at_).2.1, .bool (getTexts xs at_).2.2]) ∧ Own w' w.heap.size w'.heap.size 9 v' (ss (getTexts xs at_).1) ∧ Below w.heap.size w w'

theorem done_no {xs : List Int} {at_ : Int} {w w' : World} {v' : Value} (hg : getTexts xs at_ = ([], 0, false)) (ho : Own w' w.heap.size w'.heap.size 9 v' (ss [])) (hb : Below w.heap.size w w') :
    Done xs at_ w (.returned (.tuple #[v', .int .i64 0, .bool false])) w' := by
  unfold Done
  rw [hg]
  exact ⟨v', rfl, ho, hb⟩
theorem done_yes {xs : List Int} {at_ q : Int} {l : List ByteArray} {w w' : World} {v' : Value} (hg : getTexts xs at_ = (l, q, true)) (ho : Own w' w.heap.size w'.heap.size 9 v' (ss l)) (hb : Below w.heap.size w w') :
    Done xs at_ w (.returned (.tuple #[v', .int .i64 q, .bool true])) w' := by
  unfold Done
  rw [hg]
  exact ⟨v', rfl, ho, hb⟩

set_option maxRecDepth 1000000 in
set_option maxHeartbeats 2000000 in
theorem texts_impl (w : World) (v : Value) (xs : List Int) (at_ : Int) (h : Sl w v (bs xs)) (hb : Byt xs) (hx : xs.length ≤ 140737488355328) (hlo : -9223372036854775808 ≤ at_) (hhi : at_ ≤ 9223372036854775807) :
    Calls Try.prog 64 #[v, .int .i64 at_] w fun e w' => Done xs at_ w e w' := by
  obtain ⟨i0, hi, hz0, hz1, hz2⟩ := info_parts Strs.info9
  have hget := Gets.get_impl w v xs at_ h hb hx hlo hhi
  obtain ⟨n, p, ok, hr⟩ : ∃ n p ok, getNum xs at_ = (n, p, ok) := ⟨_, _, _, rfl⟩
  rw [hr] at hget
  have HR : Hid (getNum xs at_ = (n, p, ok)) := hr
  clear hr
  cases ok with
  | false =>
    have HG : Hid (getTexts xs at_ = ([], 0, false)) := getTexts_no HR.out (.inl rfl)
    go_enter Try.func64, Try.ntmps64
    go_wp2_with (go_at_call 63; refine hget.mono ?_; rintro e w' ⟨rfl, rfl⟩)
    go_ret3
    exact done_no HG.out (Own.nilS _ _ _) (Below.refl _ _)
  | true =>
    have hbd := getNum_bd HR.out
    obtain ⟨n, rfl⟩ := Int.eq_ofNat_of_zero_le hbd.1
    by_cases hbig : (200 : Int) < (n : Int)
    · have HG : Hid (getTexts xs at_ = ([], 0, false)) := getTexts_no HR.out (.inr hbig)
      go_enter Try.func64, Try.ntmps64
      go_wp2_with (go_at_call 63; refine hget.mono ?_; rintro e w' ⟨rfl, rfl⟩)
      go_ret3
      exact done_no HG.out (Own.nilS _ _ _) (Below.refl _ _)
    · have hn2 : n ≤ 200 := by omega
      have hlater : ∀ w', Below w.heap.size w w' → Sl w' v (bs xs) := fun w' hb => h.later hb
      go_enter Try.func64, Try.ntmps64
      go_wp2_with (first | (go_at_call 63; refine hget.mono ?_; rintro e wy ⟨rfl, hwy⟩; have hwy := hwy.symm; subst hwy) | (at_make; refine wpList_make_own _ rfl _ _ 26 rfl w.heap.size 9 i0 (.string ⟨#[]⟩) 1 Try.underlying26 hi hz0 hz1 _ _ _ n rfl rfl rfl (by rw [hz2]; omega) (by unfold maxLen; omega) (Nat.le_refl _) ?_))
      intro w1 hown hgrow
      have hbel : Below w.heap.size w w1 := (Below.refl _ _).grown hgrow (Nat.le_refl _) (by simp)
      have hown1 : Own w1 w.heap.size w1.heap.size 9 (.slice (some ⟨w.heap.size, 0, none⟩) 0 n) (ss []) := Own.of hown
      clear hget hgrow hown
      go_wp2
      go_loopw [8, 10, 30] (fun nx lv i wr => ∃ (k : Nat) (acc : List ByteArray) (q : Int), k ≤ n ∧ i = .int .i64 k ∧ nx = .int .i64 q ∧ 0 ≤ q ∧ q ≤ xs.length ∧ acc.length = k ∧ rd xs n p = (rd xs (n - k) q).map (fun r => (acc ++ r.1, r.2)) ∧ Own wr w.heap.size wr.heap.size 9 lv (ss acc) ∧ Below w.heap.size w wr) (fun _ _ i _ => n - (intOf i).toNat)
      case atStart => exact ⟨0, [], p, Nat.zero_le _, rfl, rfl, by omega, by omega, rfl, by simp, hown1, hbel⟩
      case round =>
        obtain ⟨k, acc, q, hk, rfl, rfl, hq0, hq1, hacc, hD0, ho, hbr⟩ := hrel
        have HD : Hid (acc.length = k ∧ rd xs n p = (rd xs (n - k) q).map (fun r => (acc ++ r.1, r.2))) := ⟨hacc, hD0⟩
        have hsz := hbr.size
        clear hD0 hacc hown1 hbel
        by_cases hlt : k < n
        · have htxt := GetT.text_impl wr v xs q (hlater wr hbr) hb hx (by omega) (by omega)
          obtain ⟨s, q2, ok2, hr2⟩ : ∃ s q2 ok2, getText xs q = (s, q2, ok2) := ⟨_, _, _, rfl⟩
          rw [hr2] at htxt
          have HT : Hid (getText xs q = (s, q2, ok2)) := hr2
          clear hr2
          obtain ⟨m, hm⟩ : ∃ m, n - k = m + 1 := ⟨n - k - 1, by omega⟩
          cases ok2 with
          | false =>
            have HG : Hid (getTexts xs at_ = ([], 0, false)) := getTexts_none HR.out hn2 (by rw [HD.out.2, hm, rd_no HT.out]; rfl)
            clear HD hm
            go_wp2_with (go_at_call 62; refine htxt.mono ?_; rintro e wy ⟨rfl, hwy⟩; have hwy := hwy.symm; subst hwy)
            go_ret3
            exact done_no HG.out (Own.nilS _ _ _) hbr
          | true =>
            have hbt := getText_bd HT.out
            have HN : Hid ((acc ++ [s]).length = k + 1 ∧ rd xs n p = (rd xs (n - (k + 1)) q2).map (fun r => ((acc ++ [s]) ++ r.1, r.2))) := by
              refine ⟨by rw [List.length_append, HD.out.1]; rfl, ?_⟩
              rw [HD.out.2, hm, rd_yes HT.out, show n - (k + 1) = m by omega, Option.map_map]
              simp [Function.comp_def]
            have c2 : (ss acc).length + 1 ≤ maxLen := by rw [ss_len, HD.out.1]; unfold maxLen; omega
            have c3 : ((ss acc).length + 1) * 16 ≤ 140737488355328 := by rw [ss_len, HD.out.1]; omega
            have c4 : ∀ o, w.heap.size ≤ (wr.alloc o).heap.size := fun o => by simp; omega
            clear HD hm
            go_wp2_with (first | (go_at_call 62; refine htxt.mono ?_; rintro e wy ⟨rfl, hwy⟩; have hwy := hwy.symm; subst hwy) | (at_builtin; go_must (refine wpl_app _ rfl (.tmp 41) (.tmp 43) 26 rfl 9 i0 (.string ⟨#[]⟩) 16 Try.underlying26 hi hz0 hz1 hz2 rfl w.heap.size _ (ss acc) rfl (ho.alloc _) _ rfl [.string s] (Sl.one _ _ _) (one_str _) c2 c3 (c4 _) ?_); intro v3 w3 ho3 hb3 hg3))
            have hb4 : Below w.heap.size w w3 := (hbr.alloc hsz _).trans hb3
            have ho4 : Own w3 w.heap.size w3.heap.size 9 v3 (ss (acc ++ [s])) := by rw [ss_app]; exact ho3
            go_roundw
            case rel => exact ⟨k + 1, acc ++ [s], q2, by omega, by go_num, rfl, by omega, by omega, HN.out.1, HN.out.2, ho4, hb4⟩
            case measure => simp [intOf]; omega
        · have hkn : k = n := by omega
          have HG : Hid (getTexts xs at_ = (acc, q, true)) := getTexts_some HR.out hn2 (by rw [HD.out.2, hkn, Nat.sub_self]; simp [rd])
          clear HD
          go_wp2
          go_ret3
          exact done_yes HG.out ho hbr

set_option maxRecDepth 1000000 in
set_option maxHeartbeats 2000000 in
theorem texts_spec (w : World) (v : Value) (xs : List Int) (at_ : Int) (h : Sl w v (bs xs)) (hb : Byt xs) (hx : xs.length ≤ 140737488355328) (hlo : -9223372036854775808 ≤ at_) (hhi : at_ ≤ 9223372036854775807) :
    Calls Try.prog 37 #[v, .int .i64 at_] w fun e w' => Done xs at_ w e w' := by
  obtain ⟨i0, hi, hz0, hz1, hz2⟩ := info_parts Strs.info9
  have hget := Gets.get_spec w v xs at_ h hb hx hlo hhi
  obtain ⟨n, p, ok, hr⟩ : ∃ n p ok, getNum xs at_ = (n, p, ok) := ⟨_, _, _, rfl⟩
  rw [hr] at hget
  have HR : Hid (getNum xs at_ = (n, p, ok)) := hr
  clear hr
  cases ok with
  | false =>
    have HG : Hid (getTexts xs at_ = ([], 0, false)) := getTexts_no HR.out (.inl rfl)
    go_enter Try.func37, Try.ntmps37
    go_wp2_with (go_at_call 35; refine hget.mono ?_; rintro e w' ⟨rfl, rfl⟩)
    go_ret3
    exact done_no HG.out (Own.emptyS _ _ (Nat.le_refl _)) ((Below.refl _ _).alloc (Nat.le_refl _) _)
  | true =>
    have hbd := getNum_bd HR.out
    obtain ⟨n, rfl⟩ := Int.eq_ofNat_of_zero_le hbd.1
    by_cases hbig : (200 : Int) < (n : Int)
    · have HG : Hid (getTexts xs at_ = ([], 0, false)) := getTexts_no HR.out (.inr hbig)
      go_enter Try.func37, Try.ntmps37
      go_wp2_with (go_at_call 35; refine hget.mono ?_; rintro e w' ⟨rfl, rfl⟩)
      go_ret3
      exact done_no HG.out (Own.emptyS _ _ (Nat.le_refl _)) ((Below.refl _ _).alloc (Nat.le_refl _) _)
    · have hn2 : n ≤ 200 := by omega
      have hlater : ∀ w', Below w.heap.size w w' → Sl w' v (bs xs) := fun w' hb => h.later hb
      go_enter Try.func37, Try.ntmps37
      go_wp2_with (go_at_call 35; refine hget.mono ?_; rintro e wy ⟨rfl, hwy⟩; have hwy := hwy.symm; subst hwy)
      have hbel : Below w.heap.size w (w.alloc (.cells #[] 9)) := (Below.refl _ _).alloc (Nat.le_refl _) _
      have hown1 := Own.emptyS w w.heap.size (Nat.le_refl _)
      clear hget
      go_loopw [8, 10, 11] (fun nx lv i wr => ∃ (k : Nat) (acc : List ByteArray) (q : Int), k ≤ n ∧ i = .int .i64 k ∧ nx = .int .i64 q ∧ 0 ≤ q ∧ q ≤ xs.length ∧ acc.length = k ∧ rd xs n p = (rd xs (n - k) q).map (fun r => (acc ++ r.1, r.2)) ∧ Own wr w.heap.size wr.heap.size 9 lv (ss acc) ∧ Below w.heap.size w wr) (fun _ _ i _ => n - (intOf i).toNat)
      case atStart => exact ⟨0, [], p, Nat.zero_le _, rfl, rfl, by omega, by omega, rfl, by simp, hown1, hbel⟩
      case round =>
        obtain ⟨k, acc, q, hk, rfl, rfl, hq0, hq1, hacc, hD0, ho, hbr⟩ := hrel
        have HD : Hid (acc.length = k ∧ rd xs n p = (rd xs (n - k) q).map (fun r => (acc ++ r.1, r.2))) := ⟨hacc, hD0⟩
        have hsz := hbr.size
        clear hD0 hacc hown1 hbel
        by_cases hlt : k < n
        · have htxt := GetT.text_spec wr v xs q (hlater wr hbr) hb hx (by omega) (by omega)
          obtain ⟨s, q2, ok2, hr2⟩ : ∃ s q2 ok2, getText xs q = (s, q2, ok2) := ⟨_, _, _, rfl⟩
          rw [hr2] at htxt
          have HT : Hid (getText xs q = (s, q2, ok2)) := hr2
          clear hr2
          obtain ⟨m, hm⟩ : ∃ m, n - k = m + 1 := ⟨n - k - 1, by omega⟩
          cases ok2 with
          | false =>
            have HG : Hid (getTexts xs at_ = ([], 0, false)) := getTexts_none HR.out hn2 (by rw [HD.out.2, hm, rd_no HT.out]; rfl)
            clear HD hm
            go_wp2_with (go_at_call 36; refine htxt.mono ?_; rintro e wy ⟨rfl, hwy⟩; have hwy := hwy.symm; subst hwy)
            go_ret3
            exact done_no HG.out (Own.emptyS _ _ hsz) (hbr.alloc hsz _)
          | true =>
            have hbt := getText_bd HT.out
            have HN : Hid ((acc ++ [s]).length = k + 1 ∧ rd xs n p = (rd xs (n - (k + 1)) q2).map (fun r => ((acc ++ [s]) ++ r.1, r.2))) := by
              refine ⟨by rw [List.length_append, HD.out.1]; rfl, ?_⟩
              rw [HD.out.2, hm, rd_yes HT.out, show n - (k + 1) = m by omega, Option.map_map]
              simp [Function.comp_def]
            have c2 : (ss acc).length + 1 ≤ maxLen := by rw [ss_len, HD.out.1]; unfold maxLen; omega
            have c3 : ((ss acc).length + 1) * 16 ≤ 140737488355328 := by rw [ss_len, HD.out.1]; omega
            have c4 : ∀ o, w.heap.size ≤ (wr.alloc o).heap.size := fun o => by simp; omega
            clear HD hm
            go_wp2_with (first | (go_at_call 36; refine htxt.mono ?_; rintro e wy ⟨rfl, hwy⟩; have hwy := hwy.symm; subst hwy) | (at_builtin; go_must (refine wpl_app _ rfl (.tmp 45) (.tmp 47) 26 rfl 9 i0 (.string ⟨#[]⟩) 16 Try.underlying26 hi hz0 hz1 hz2 rfl w.heap.size _ (ss acc) rfl (ho.alloc _) _ rfl [.string s] (Sl.one _ _ _) (one_str _) c2 c3 (c4 _) ?_); intro v3 w3 ho3 hb3 hg3))
            have hb4 : Below w.heap.size w w3 := (hbr.alloc hsz _).trans hb3
            have ho4 : Own w3 w.heap.size w3.heap.size 9 v3 (ss (acc ++ [s])) := by rw [ss_app]; exact ho3
            go_roundw
            case rel => exact ⟨k + 1, acc ++ [s], q2, by omega, by go_num, rfl, by omega, by omega, HN.out.1, HN.out.2, ho4, hb4⟩
            case measure => simp [intOf]; omega
        · have hkn : k = n := by omega
          have HG : Hid (getTexts xs at_ = (acc, q, true)) := getTexts_some HR.out hn2 (by rw [HD.out.2, hkn, Nat.sub_self]; simp [rd])
          clear HD
          go_wp2
          go_ret3
          exact done_yes HG.out ho hbr

end Go.Proofs.Yteemblfjghnooaa.GetTs
