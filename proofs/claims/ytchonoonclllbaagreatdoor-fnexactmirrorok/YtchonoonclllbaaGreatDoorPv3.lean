/- Texts in one: Bytes. -/
import Derived.Test.YtchonoonclllbaaGreatDoorRows
import Derived.Test.YtchonoonclllbaaGreatDoorPv1
import Derived.WalkKit
import Derived.WalkSpells
import Derived.WalkLawsBesides
import Derived.Deep.QuietTactic
import Derived.BigQuiet
namespace Go.Proofs.YtchonoonclllbaaGreatDoor.Bytes
open Go.RowKit Go.Proofs.YtchonoonclllbaaGreatDoor.Mem
set_option linter.unusedVariables false
theorem info5 : (Tryz.prog.info? 5).map (fun i => (i.zero, i.size, i.bytes)) = some (some (.int .u8 0), 1, 1) := by kernel_rfl
theorem take_snoc {xs : List Int} {k : Nat} {c : Int} (h : xs[k]? = some c) : xs.take (k + 1) = xs.take k ++ [c] := by
 obtain ⟨hk, rfl⟩ := List.getElem?_eq_some_iff.1 h
 exact List.take_succ_eq_append_getElem hk
theorem set_take {α : Type} {L C : List α} {k : Nat} {u : α} (hk : k < L.length) (h : L.take k = C.take k) (hu : C[k]? = some u) : (L.set k u).take (k + 1) = C.take (k + 1) := by
 apply List.ext_getElem?
 intro j
 have hj := congrArg (fun l => l[j]?) h
 simp only [List.getElem?_take] at hj ⊢
 by_cases h1 : j < k
 ·
  rw [if_pos h1, if_pos h1] at hj
  rw [if_pos (by omega), if_pos (by omega), List.getElem?_set_ne (by omega), hj]
 ·
  by_cases h2 : j = k
  ·
   subst h2
   rw [if_pos (by omega), if_pos (by omega), hu]
   simp [hk]
  ·
   rw [if_neg (by omega), if_neg (by omega)]
set_option maxHeartbeats 400000 in
theorem eq_any (w : World) (v1 v2 : Value) (xs ys : List Int) (h1 : Sl w v1 (bs xs)) (h2 : Sl w v2 (bs ys)) (hx : xs.length ≤ 140737488355328) (hy : ys.length ≤ 140737488355328) :
  Calls Tryz.prog 126 #[v1, v2] w fun e w' => e = .returned (.bool (decide (xs = ys))) ∧ ∃ n, w' = w.drewN n := by
 obtain ⟨ao, cap, rfl, hc1, _, hr1⟩ := h1
 obtain ⟨bo, cap2, rfl, hc2, _, hr2⟩ := h2
 rw [bs_len] at hr1 hr2 hc1 hc2
 rw [bs_len, bs_len]
 by_cases hl : xs.length = ys.length
 ·
  have hne : ((xs.length : Int) != (ys.length : Int)) = false := by simp [hl]
  have HL : Hid (xs.length = ys.length) := hl
  clear hl
  go_enter Tryz.func126, Tryz.ntmps126
  go_wp2
  go_loopw [5] (fun i wr => ∃ k n : Nat, k ≤ xs.length ∧ i = .int .i64 k ∧ xs.take k = ys.take k ∧ wr = w.drewN n) (fun i _ => xs.length - (intOf i).toNat)
  case atStart => exact ⟨0, 0, Nat.zero_le _, rfl, rfl, rfl⟩
  case round =>
   obtain ⟨k, n, hk, rfl, hE0, rfl⟩ := hrel
   have HE : Hid (xs.take k = ys.take k) := hE0
   clear hE0
   by_cases hlt : k < xs.length
   ·
    obtain ⟨b, off, c, rfl, hx0, hcell⟩ := Sl.byteAt hr1 rfl hlt
    obtain ⟨b2, off2, c2, rfl, hy0, hcell2⟩ := Sl.byteAt hr2 rfl (show k < ys.length by have := HL.out; omega)
    have HX : Hid (xs[k]? = some c ∧ ys[k]? = some c2) := ⟨hx0, hy0⟩
    have hlt2 : k < ys.length := by have := HL.out; omega
    clear hx0 hy0 hr1 hr2
    go_wp2
    go_quiet (fail)
    go_wp2
    ·
     have hne2 : (c != c2) = true := by assumption
     go_ret
     refine ⟨?_, n + nq, World.drewN_drewN _ _ _⟩
     have hX := HX.out
     have : ¬ xs = ys := fun h => by rw [h, hX.2] at hX; simp at hX; simp [hX] at hne2
     simp [this]
    ·
     have hne2 : (c != c2) = false := by assumption
     go_roundw
     case rel => exact ⟨k + 1, n + nq, by omega, by go_num, by rw [take_snoc HX.out.1, take_snoc HX.out.2, HE.out]; simp at hne2; rw [hne2], rfl⟩
     case measure => simp [intOf]; omega
   ·
    go_wp2
    go_ret
    refine ⟨?_, n, rfl⟩
    have h1 := HE.out
    have h2 := HL.out
    rw [List.take_of_length_le (by omega), List.take_of_length_le (by omega)] at h1
    simp [h1]
 ·
  have hne : ((xs.length : Int) != (ys.length : Int)) = true := by simp; omega
  go_enter Tryz.func126, Tryz.ntmps126
  go_wp2
  go_ret
  refine ⟨?_, 0, rfl⟩
  have : ¬ xs = ys := fun h => hl (by rw [h])
  simp [this]
set_option maxHeartbeats 400000 in
theorem to_any (w : World) (v : Value) (xs : List Int) (h : Sl w v (bs xs)) (hx : xs.length ≤ 140737488355328) :
  Calls Tryz.prog 124 #[v] w fun e w' => ∃ v', e = .returned v' ∧ Own w' w.heap.size w'.heap.size 5 v' (bs xs) ∧ Below w.heap.size w w' := by
 obtain ⟨i0, hi, hz0, hz1, hz2⟩ := info_parts info5
 have hlater : ∀ w', Below w.heap.size w w' → Sl w' v (bs xs) := fun w' hb => h.later hb
 obtain ⟨ao, cap, rfl, hc, _, hr⟩ := h
 rw [bs_len] at hr hc hlater
 rw [bs_len]
 go_enter Tryz.func124, Tryz.ntmps124
 go_wp2_with (first | (at_make; refine wpList_make_full _ rfl _ _ 22 rfl w.heap.size 5 i0 (.int .u8 0) 1 Tryz.underlying22 hi hz0 hz1 _ _ _ _ xs.length rfl rfl rfl rfl (by rw [hz2]; omega) (by unfold maxLen; omega) (Nat.le_refl _) ?_; intro w1 hown hgrow))
 have hbel : Below w.heap.size w w1 := (Below.refl _ _).grown hgrow (Nat.le_refl _) (by simp)
 have hsz : w.heap.size < w1.heap.size := (hown.lt w.heap.size rfl).2
 clear hgrow
 go_loopw [4] (fun i wr => ∃ (k : Nat) (L : List Value), k ≤ xs.length ∧ i = .int .i64 k ∧ L.take k = (bs xs).take k ∧ wr.ownsRow w.heap.size 5 1 (.slice (some ⟨w.heap.size, 0, none⟩) xs.length xs.length) xs.length L ∧ Below w.heap.size w wr) (fun i _ => xs.length - (intOf i).toNat)
 case atStart => exact ⟨0, _, Nat.zero_le _, rfl, by rw [List.take_zero, List.take_zero], hown, hbel⟩
 case round =>
  obtain ⟨k, L, hk, rfl, hE0, hownr, hbr⟩ := hrel
  have HE : Hid (L.take k = (bs xs).take k) := hE0
  have hL : L.length = xs.length := by have := hownr.1; omega
  have HL : Hid (L.length = xs.length) := hL
  clear hE0 hown hbel
  by_cases hlt : k < xs.length
  ·
   obtain ⟨ao', cap', he, _, _, hr'⟩ := hlater wr hbr
   rw [bs_len] at he hr'
   simp only [Value.slice.injEq] at he
   obtain ⟨rfl, _, rfl⟩ := he
   obtain ⟨b, off, c, rfl, hx0, hcell⟩ := Sl.byteAt hr' rfl hlt
   have HX : Hid (xs[k]? = some c) := hx0
   obtain ⟨u, hu⟩ : ∃ u, wr.cell? ⟨w.heap.size, k, none⟩ = some u := ⟨L[k]'(by omega), by rw [hownr.cellAt k (by omega)]; simp⟩
   have hf := hownr.frozenAt k
   have hst := hownr.stored k (.int .u8 c)
   have HS : Hid ((wr.setCell ⟨w.heap.size, k, none⟩ (.int .u8 c)).ownsRow w.heap.size 5 1 (.slice (some ⟨w.heap.size, 0, none⟩) xs.length xs.length) xs.length (L.set k (.int .u8 c))) := hst.1
   clear hx0 hr hr' hst hlater hL
   go_wp2
   go_roundw
   case rel => exact ⟨k + 1, L.set k (.int .u8 c), by omega, by go_num, set_take (by have := HL.out; omega) HE.out (by rw [bs_get, HX.out]; rfl), HS.out, hbr.setCell (Nat.le_refl _) _⟩
   case measure => simp [intOf]; omega
  ·
   go_wp2
   go_ret
   refine ⟨_, rfl, ?_, hbr⟩
   have h1 := HE.out
   have h2 := HL.out
   rw [List.take_of_length_le (by omega), List.take_of_length_le (by rw [bs_len]; omega)] at h1
   subst h1
   exact Own.of hownr
theorem eq_true (w : World) (v1 v2 : Value) (xs : List Int) (h1 : Sl w v1 (bs xs)) (h2 : Sl w v2 (bs xs)) (hx : xs.length ≤ 140737488355328) :
  Calls Tryz.prog 126 #[v1, v2] w fun e w' => e = .returned (.bool true) ∧ (∀ B, Below B w w') ∧ w'.heap.size = w.heap.size := by
 refine (eq_any w v1 v2 xs xs h1 h2 hx hx).mono ?_
 rintro e w' ⟨rfl, n, rfl⟩
 exact ⟨by simp, fun B => below_drewN (Below.refl _ _) n, rfl⟩
end Go.Proofs.YtchonoonclllbaaGreatDoor.Bytes
