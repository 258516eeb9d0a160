/- Contracts of GetText, the program's and the specification's: both answer 'getText' of the bytes, and turn nothing. -/
import Derived.Test.YteemblfjghnooaaGets
import Derived.Test.YteemblfjghnooaaPlain2
namespace Go.Proofs.Yteemblfjghnooaa.GetT
open Go.RowKit Go.Proofs.Yteemblfjghnooaa.Mem Go.Proofs.Yteemblfjghnooaa.Plain
set_option linter.unusedVariables false

theorem conv_none (ao : Option Addr) (c : Nat) (w : World) : (convert 22 9 (.slice ao 0 c)).run Try.prog w = .ok (.string ⟨#[]⟩) w := by
  cases ao with
  | none => rw [run_convert_bytes_string w 22 9 5 none 0 c Try.underlying22 Try.underlying5 Try.underlying9]; rfl
  | some a => exact run_convert_bytes_back w 22 9 5 a c [] Try.underlying22 Try.underlying5 Try.underlying9 (fun j hj => by simp at hj)

theorem conv_some {w : World} {xs : List Int} {b off p n c : Nat} (hb : Byt xs) (hcell : ∀ j, j < xs.length → w.cell? ⟨b, off + j, none⟩ = (bs xs)[j]?) (hn : p + n ≤ xs.length) :
    (convert 22 9 (.slice (some ⟨b, off + p, none⟩) n c)).run Try.prog w = .ok (.string (txt ((xs.drop p).take n))) w := by
  have hl : (u8s ((xs.drop p).take n)).length = n := by rw [u8s_len]; simp; omega
  have h := run_convert_bytes_back (P := Try.prog) w 22 9 5 ⟨b, off + p, none⟩ c (u8s ((xs.drop p).take n)) Try.underlying22 Try.underlying5 Try.underlying9 (fun j hj => by
    rw [hl] at hj
    rw [Addr.add_lit, Nat.add_assoc, hcell (p + j) (by omega), bs_get]
    have hx : xs[p + j]? = some (xs[p + j]'(by omega)) := by simp
    have hy := hb.at hx
    rw [hx]
    simp only [u8s, List.getElem_map, List.getElem_take, List.getElem_drop, Option.map_some]
    rw [u8_back hy])
  rw [hl] at h
  exact h

theorem rets {s s' : ByteArray} {b b' : Int} {c c' : Bool} (h1 : s = s') (h2 : b = b') (h3 : c = c') : Ending.returned (.tuple #[.string s, .int .i64 b, .bool c]) = .returned (.tuple #[.string s', .int .i64 b', .bool c']) := by rw [h1, h2, h3]

set_option maxRecDepth 1000000 in
set_option maxHeartbeats 1000000 in
theorem text_impl (w : World) (v : Value) (xs : List Int) (at_ : Int) (h : Sl w v (bs xs)) (hb : Byt xs) (hx : xs.length ≤ 140737488355328) (hlo : -9223372036854775808 ≤ at_) (hhi : at_ ≤ 9223372036854775807) :
    Calls Try.prog 62 #[v, .int .i64 at_] w fun e w' => e = .returned (.tuple #[.string (getText xs at_).1, .int .i64 (getText xs at_).2.1, .bool (getText xs at_).2.2]) ∧ w' = w := by
  have hget := Gets.get_impl w v xs at_ h hb hx hlo hhi
  obtain ⟨n, p, ok, hr⟩ : ∃ n p ok, getNum xs at_ = (n, p, ok) := ⟨_, _, _, rfl⟩
  rw [hr] at hget
  have HR : Hid (getNum xs at_ = (n, p, ok)) := hr
  clear hr
  obtain ⟨ao, cap, rfl, hc1, hnone, hr1⟩ := h
  rw [bs_len] at hr1 hc1 hget
  rw [bs_len]
  cases ok with
  | false =>
    have HG : Hid (getText xs at_ = (⟨#[]⟩, 0, false)) := getText_no HR.out (.inl rfl)
    go_enter Try.func62, Try.ntmps62
    go_wp2_with (go_at_call 63; refine hget.mono ?_; rintro e w' ⟨rfl, rfl⟩)
    go_ret3
    exact ⟨by rw [HG.out]; rfl, rfl⟩
  | true =>
    have hbd := getNum_bd HR.out
    obtain ⟨n, rfl⟩ := Int.eq_ofNat_of_zero_le hbd.1
    obtain ⟨p, rfl⟩ := Int.eq_ofNat_of_zero_le (show 0 ≤ p by omega)
    by_cases hbig : (xs.length : Int) - (p : Int) < (n : Int)
    · have HG : Hid (getText xs at_ = (⟨#[]⟩, 0, false)) := getText_no HR.out (.inr hbig)
      go_enter Try.func62, Try.ntmps62
      go_wp2_with (go_at_call 63; refine hget.mono ?_; rintro e w' ⟨rfl, rfl⟩)
      go_ret3
      exact ⟨by rw [HG.out]; rfl, rfl⟩
    · have HG : Hid (getText xs at_ = (txt ((xs.drop p).take n), (p : Int) + (n : Int), true)) := getText_yes HR.out (by omega)
      obtain ⟨b, off, rfl, hcell⟩ := hr1 (by omega)
      by_cases h0 : n = 0
      · subst h0
        have hconv : ∀ ao c w, (convert 22 9 (.slice ao 0 c)).run Try.prog w = .ok (.string ⟨#[]⟩) w := conv_none
        have HT : Hid (txt ((xs.drop p).take 0) = ⟨#[]⟩) := rfl
        clear hr1 hcell
        go_enter Try.func62, Try.ntmps62
        go_wp2_with (go_at_call 63; refine hget.mono ?_; rintro e w' ⟨rfl, rfl⟩)
        all_goals go_ret3
        all_goals exact ⟨by rw [HG.out]; exact rets rfl (by dsimp only; omega) rfl, rfl⟩
      · have hconv := conv_some (c := cap - p) hb hcell (show p + n ≤ xs.length by omega)
        clear hr1 hcell
        go_enter Try.func62, Try.ntmps62
        go_wp2_with (go_at_call 63; refine hget.mono ?_; rintro e w' ⟨rfl, rfl⟩)
        all_goals go_ret3
        all_goals exact ⟨by rw [HG.out]; exact rets rfl (by dsimp only) rfl, rfl⟩

set_option maxRecDepth 1000000 in
set_option maxHeartbeats 1000000 in
theorem text_spec (w : World) (v : Value) (xs : List Int) (at_ : Int) (h : Sl w v (bs xs)) (hb : Byt xs) (hx : xs.length ≤ 140737488355328) (hlo : -9223372036854775808 ≤ at_) (hhi : at_ ≤ 9223372036854775807) :
    Calls Try.prog 36 #[v, .int .i64 at_] w fun e w' => e = .returned (.tuple #[.string (getText xs at_).1, .int .i64 (getText xs at_).2.1, .bool (getText xs at_).2.2]) ∧ w' = w := by
  have hget := Gets.get_spec w v xs at_ h hb hx hlo hhi
  obtain ⟨n, p, ok, hr⟩ : ∃ n p ok, getNum xs at_ = (n, p, ok) := ⟨_, _, _, rfl⟩
  rw [hr] at hget
  have HR : Hid (getNum xs at_ = (n, p, ok)) := hr
  clear hr
  obtain ⟨ao, cap, rfl, hc1, hnone, hr1⟩ := h
  rw [bs_len] at hr1 hc1 hget
  rw [bs_len]
  cases ok with
  | false =>
    have HG : Hid (getText xs at_ = (⟨#[]⟩, 0, false)) := getText_no HR.out (.inl rfl)
    go_enter Try.func36, Try.ntmps36
    go_wp2_with (go_at_call 35; refine hget.mono ?_; rintro e w' ⟨rfl, rfl⟩)
    go_ret3
    exact ⟨by rw [HG.out]; rfl, rfl⟩
  | true =>
    have hbd := getNum_bd HR.out
    obtain ⟨n, rfl⟩ := Int.eq_ofNat_of_zero_le hbd.1
    obtain ⟨p, rfl⟩ := Int.eq_ofNat_of_zero_le (show 0 ≤ p by omega)
    by_cases hbig : (xs.length : Int) - (p : Int) < (n : Int)
    · have HG : Hid (getText xs at_ = (⟨#[]⟩, 0, false)) := getText_no HR.out (.inr hbig)
      go_enter Try.func36, Try.ntmps36
      go_wp2_with (go_at_call 35; refine hget.mono ?_; rintro e w' ⟨rfl, rfl⟩)
      go_ret3
      exact ⟨by rw [HG.out]; rfl, rfl⟩
    · have HG : Hid (getText xs at_ = (txt ((xs.drop p).take n), (p : Int) + (n : Int), true)) := getText_yes HR.out (by omega)
      obtain ⟨b, off, rfl, hcell⟩ := hr1 (by omega)
      by_cases h0 : n = 0
      · subst h0
        have hconv : ∀ ao c w, (convert 22 9 (.slice ao 0 c)).run Try.prog w = .ok (.string ⟨#[]⟩) w := conv_none
        have HT : Hid (txt ((xs.drop p).take 0) = ⟨#[]⟩) := rfl
        clear hr1 hcell
        go_enter Try.func36, Try.ntmps36
        go_wp2_with (go_at_call 35; refine hget.mono ?_; rintro e w' ⟨rfl, rfl⟩)
        all_goals go_ret3
        all_goals exact ⟨by rw [HG.out]; exact rets rfl (by dsimp only; omega) rfl, rfl⟩
      · have hconv := conv_some (c := cap - p) hb hcell (show p + n ≤ xs.length by omega)
        clear hr1 hcell
        go_enter Try.func36, Try.ntmps36
        go_wp2_with (go_at_call 35; refine hget.mono ?_; rintro e w' ⟨rfl, rfl⟩)
        all_goals go_ret3
        all_goals exact ⟨by rw [HG.out]; exact rets rfl (by dsimp only) rfl, rfl⟩

end Go.Proofs.Yteemblfjghnooaa.GetT
