/- Contracts of the draws of chapter 1: some bytes and a number, some bytes and a text, some bytes and texts; all in new memory. -/
import Derived.Test.YtoginlmlbppnmaaDraw
import Derived.Test.YtoginlmlbppnmaaPlain2
import Derived.Test.YtoginlmlbppnmaaGetT
import Derived.Test.YtoginlmlbppnmaaPuts
namespace Go.Proofs.Ytoginlmlbppnmaa.DrawP
open Go.RowKit Go.Proofs.Ytoginlmlbppnmaa.Mem Go.Proofs.Ytoginlmlbppnmaa.Laws Go.Proofs.Ytoginlmlbppnmaa.Bytes Go.Proofs.Ytoginlmlbppnmaa.Draw Go.Proofs.Ytoginlmlbppnmaa.Plain
set_option linter.unusedVariables false

set_option maxRecDepth 1000000 in
set_option maxHeartbeats 1000000 in
theorem num_any (w : World) (vb : Value) (xs : List Int) (hs : Sl w vb (bs xs)) (hby : Byt xs) (hx : xs.length ≤ 140737488355328) :
    Calls Try.prog 6 #[vb] w fun e w' => ∃ (v' : Value) (ys : List Int) (n : Int), e = .returned (.tuple #[v', .int .i64 n]) ∧ ys.length ≤ 9 ∧ Byt ys ∧ -9223372036854775808 ≤ n ∧ n ≤ 9223372036854775807 ∧ Own w' w.heap.size w'.heap.size 5 v' (bs ys) ∧ Below w.heap.size w w' := by
  go_enter Try.func6, Try.ntmps6
  go_wp2_with fail
  refine (new_any w vb xs hs hby hx).mono ?_
  rintro e w1 ⟨rfl, hd1⟩
  have g1 := hd1.cur.lt
  go_wp2_with fail
  refine (some_any w w1 w.heap.size vb xs hs hby hx hd1.below (Nat.le_refl _) hd1.cur).mono ?_
  rintro e w2 ⟨v2, ys, rfl, hyl, hyb, ho2, hd2⟩
  have s2 := hd2.apart.size
  go_wp2_with fail
  refine (below_any w w2 w.heap.size vb xs 100000 (by omega) (by omega) hs hby hx hd2.below (Nat.le_refl _) hd2.cur).mono ?_
  rintro e w3 ⟨x, rfl, x0, x1, hd3⟩
  have s3 := hd3.apart.size
  have ho3 := Own.drawn ho2 hd3 (.inl g1) (Nat.le_refl _)
  have hd4 : ∀ o, Drawn w w3 w.heap.size vb xs (w3.alloc o) := fun o => (Drawn.refl hd3.below hd3.cur).on (Nat.le_refl _) (by omega) ((Below.refl _ _).alloc (Nat.le_refl _) _)
  go_wp2_with fail
  refine (int_any w _ w.heap.size vb xs w3.heap.size [0, 1, 127, 128, 16383, 16384, 1000000000, 1000000001, -1, 9223372036854775807, x] (lit_block _ _ _) (by omega) (by simp) (by simp) hs hby hx (hd4 _).below (Nat.le_refl _) (hd4 _).cur).mono ?_
  rintro e w5 ⟨y, rfl, hym, hd5⟩
  have ho4 := Own.drawn (Own.drawn ho3 (hd4 _) (.inl g1) s3) hd5 (.inl g1) (by simp; omega)
  have s5 := hd5.apart.size
  go_wp2
  go_ret2
  refine ⟨_, ys, y, rfl, hyl, hyb, ?_, ?_, ho4.mono (by omega) (by simp at s5; omega), hd5.below⟩
  · simp only [List.mem_cons, List.not_mem_nil, or_false] at hym
    omega
  · simp only [List.mem_cons, List.not_mem_nil, or_false] at hym
    omega

set_option maxRecDepth 1000000 in
set_option maxHeartbeats 1000000 in
theorem texts_d (w : World) (vb : Value) (xs : List Int) (hs : Sl w vb (bs xs)) (hby : Byt xs) (hx : xs.length ≤ 140737488355328) :
    Calls Try.prog 12 #[vb] w fun e w' => ∃ (v' v2 : Value) (ys : List Int) (l : List ByteArray), e = .returned (.tuple #[v', v2]) ∧ ys.length ≤ 9 ∧ Byt ys ∧ l.length ≤ 4 ∧ (∀ s ∈ l, s.size ≤ 15) ∧ Own w' w.heap.size w'.heap.size 5 v' (bs ys) ∧ Own w' w.heap.size w'.heap.size 9 v2 (ss l) ∧ Below w.heap.size w w' := by
  go_enter Try.func12, Try.ntmps12
  go_wp2_with fail
  refine (new_any w vb xs hs hby hx).mono ?_
  rintro e w1 ⟨rfl, hd1⟩
  have g1 := hd1.cur.lt
  go_wp2_with fail
  refine (some_any w w1 w.heap.size vb xs hs hby hx hd1.below (Nat.le_refl _) hd1.cur).mono ?_
  rintro e w2 ⟨v2, ys, rfl, hyl, hyb, ho2, hd2⟩
  have s2 := hd2.apart.size
  go_wp2_with fail
  refine (Draw.texts_any w w2 w.heap.size vb xs hs hby hx hd2.below (Nat.le_refl _) hd2.cur).mono ?_
  rintro e w3 ⟨v3, l, rfl, hll, hls, ho3, hd3⟩
  have s3 := hd3.apart.size
  have ho4 := Own.drawn ho2 hd3 (.inl g1) (Nat.le_refl _)
  go_wp2
  go_ret2
  exact ⟨_, _, ys, l, rfl, hyl, hyb, hll, hls, ho4.mono (by omega) s3, ho3.mono (by omega) (Nat.le_refl _), hd3.below⟩

theorem conv_sl {w : World} {v : Value} {zs : List Int} (h : Sl w v (bs zs)) (hb : Byt zs) : (convert 22 9 v).run Try.prog w = .ok (.string (txt zs)) w := by
  obtain ⟨ao, cap, rfl, hc, _, hr⟩ := h
  rw [bs_len] at hr hc
  rw [bs_len]
  by_cases h0 : zs.length = 0
  · have hz : zs = [] := List.eq_nil_of_length_eq_zero h0
    subst hz
    exact GetT.conv_none ao cap w
  · obtain ⟨b, off, rfl, hcell⟩ := hr (by omega)
    have h1 := GetT.conv_some (c := cap) (p := 0) (n := zs.length) hb hcell (by omega)
    rw [List.drop_zero, List.take_of_length_le (Nat.le_refl _)] at h1
    exact h1

set_option maxRecDepth 1000000 in
set_option maxHeartbeats 1000000 in
theorem text_d (w : World) (vb : Value) (xs : List Int) (hs : Sl w vb (bs xs)) (hby : Byt xs) (hx : xs.length ≤ 140737488355328) :
    Calls Try.prog 9 #[vb] w fun e w' => ∃ (v' : Value) (ys zs : List Int), e = .returned (.tuple #[v', .string (txt zs)]) ∧ ys.length ≤ 9 ∧ Byt ys ∧ zs.length ≤ 9 ∧ Byt zs ∧ Own w' w.heap.size w'.heap.size 5 v' (bs ys) ∧ Below w.heap.size w w' := by
  go_enter Try.func9, Try.ntmps9
  go_wp2_with fail
  refine (new_any w vb xs hs hby hx).mono ?_
  rintro e w1 ⟨rfl, hd1⟩
  have g1 := hd1.cur.lt
  go_wp2_with fail
  go_region_with (first | (go_at_call 17; refine (some_any w w1.drew w.heap.size vb xs hs hby hx (Below.drew hd1.below) (Nat.le_refl _) hd1.cur).mono ?_; rintro e w2 ⟨v2, ys, rfl, hyl, hyb, ho2, hd2⟩) | (go_at_call 17; refine (some_any w _ w.heap.size vb xs hs hby hx hd2.below (Nat.le_refl _) hd2.cur).mono ?_; rintro e w3 ⟨v3, zs, rfl, hzl, hzb, ho3, hd3⟩; have hcv := conv_sl ho3.sl hzb))
  have s2 := hd2.apart.size
  have s3 := hd3.apart.size
  have ho4 := Own.drawn ho2 hd3 (.inl g1) (Nat.le_refl _)
  clear hcv
  go_wp2
  go_ret2
  exact ⟨_, ys, zs, rfl, hyl, hyb, hzl, hzb, ho4.mono (by simp at *; omega) s3, hd3.below⟩

theorem tot_le (l : List ByteArray) (h : ∀ s ∈ l, s.size ≤ 15) : Puts.tot l ≤ 15 * l.length := by
  induction l with
  | nil => simp [Puts.tot]
  | cons s r ih =>
    have h1 := h s (List.mem_cons_self ..)
    have h2 := ih (fun x hx => h x (List.mem_cons_of_mem _ hx))
    simp only [Puts.tot, List.length_cons]
    omega

theorem txs_byt (l : List ByteArray) : Byt (Puts.txs l) := by
  induction l with
  | nil => intro x hx; cases hx
  | cons s r ih => exact (Puts.tx_byt s).app ih

theorem Sl.two (w : World) (a b : Int) (t : TypeId) : Sl (w.alloc (.cells #[.int .u8 a, .int .u8 b] t)) (.slice (some ⟨w.heap.size, 0, none⟩) 2 2) (bs [a, b]) := by
  refine ⟨some ⟨w.heap.size, 0, none⟩, 2, rfl, by simp [bs], fun h => (by cases h), fun _ => ⟨w.heap.size, 0, rfl, fun j hj => ?_⟩⟩
  rw [cell_of_row _ w.heap.size (0 + j) #[.int .u8 a, .int .u8 b] t (0, 0) (heap_alloc_new w _)]
  have h2 : j = 0 ∨ j = 1 := by simp [bs] at hj; omega
  rcases h2 with rfl | rfl <;> simp [bs]

end Go.Proofs.Ytoginlmlbppnmaa.DrawP
