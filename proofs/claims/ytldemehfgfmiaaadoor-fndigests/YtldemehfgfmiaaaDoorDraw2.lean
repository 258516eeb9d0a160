/- Contracts of the draws of chapter 2: some bytes, in new memory. -/
import Derived.Test.YtldemehfgfmiaaaDoorDraw
namespace Go.Proofs.YtldemehfgfmiaaaDoor.Draw
open Go.RowKit Go.Proofs.YtldemehfgfmiaaaDoor.Mem Go.Proofs.YtldemehfgfmiaaaDoor.Laws Go.Proofs.YtldemehfgfmiaaaDoor.Bytes
set_option linter.unusedVariables false

set_option maxRecDepth 1000000 in
set_option maxHeartbeats 1000000 in
theorem l2bytes_any (W0 w : World) (g : Nat) (vb : Value) (xs : List Int) (hs : Sl W0 vb (bs xs)) (hby : Byt xs) (hx : xs.length ≤ 140737488355328) (hB : Below W0.heap.size W0 w) (hg : W0.heap.size ≤ g) (hc : Cur w g vb xs.length) :
    Calls Tryd.prog 12 #[.pointer (some ⟨g, 0, none⟩)] w fun e w' => ∃ (v' : Value) (ys : List Int), e = .returned v' ∧ ys.length ≤ 129 ∧ Byt ys ∧ Own w' w.heap.size w'.heap.size 5 v' (bs ys) ∧ Drawn W0 w g vb xs w' := by
  go_enter Tryd.func12, Tryd.ntmps12
  go_wp2_with fail
  refine (below_any W0 w g vb xs 130 (by omega) (by omega) hs hby hx hB hg hc).mono ?_
  rintro e w1 ⟨x, rfl, x0, x1, hd1⟩
  have g1 := hd1.cur.lt
  have s1 := hd1.apart.size
  have hd2 : ∀ o, Drawn W0 w1 g vb xs (w1.alloc o) := fun o => (Drawn.refl hd1.below hd1.cur).on hg g1 ((Below.refl _ _).alloc (Nat.le_refl _) _)
  go_wp2_with fail
  refine (int_any W0 _ g vb xs w1.heap.size [0, 1, 3, 55, 56, 63, 64, 65, 119, 120, x] (lit_block _ _ _) (by omega) (by simp) (by simp) hs hby hx (hd2 _).below hg (hd2 _).cur).mono ?_
  rintro e w3 ⟨y, rfl, hym, hd3⟩
  obtain ⟨n, rfl, hn⟩ : ∃ n : Nat, y = (n : Int) ∧ n ≤ 129 := by
    simp only [List.mem_cons, List.not_mem_nil, or_false] at hym
    exact ⟨y.toNat, by omega, by omega⟩
  have hd4 := (hd1.and (hd2 _)).and hd3
  have s4 : w.heap.size ≤ w3.heap.size := hd4.apart.size
  go_wp2_with fail
  refine (bytes_any W0 w3 g vb xs n (by omega) hs hby hx hd4.below hg hd4.cur).mono ?_
  rintro e w5 ⟨v5, ys, rfl, hyl, hyb, ho5, hd5⟩
  go_wp2
  go_ret
  exact ⟨_, ys, rfl, by omega, hyb, ho5.mono s4 (Nat.le_refl _), hd4.and hd5⟩

set_option maxRecDepth 1000000 in
set_option maxHeartbeats 1000000 in
theorem padded_d (w : World) (vb : Value) (xs : List Int) (hs : Sl w vb (bs xs)) (hby : Byt xs) (hx : xs.length ≤ 140737488355328) :
    Calls Tryd.prog 5 #[vb] w fun e w' => ∃ (v' : Value) (ys : List Int), e = .returned v' ∧ ys.length ≤ 129 ∧ Byt ys ∧ Own w' w.heap.size w'.heap.size 5 v' (bs ys) ∧ Below w.heap.size w w' := by
  go_enter Tryd.func5, Tryd.ntmps5
  go_wp2_with fail
  refine (new_any w vb xs hs hby hx).mono ?_
  rintro e w1 ⟨rfl, hd1⟩
  have s1 := hd1.apart.size
  go_wp2_with fail
  refine (l2bytes_any w w1 w.heap.size vb xs hs hby hx hd1.below (Nat.le_refl _) hd1.cur).mono ?_
  rintro e w2 ⟨v2, ys, rfl, hyl, hyb, ho2, hd2⟩
  go_wp2
  go_ret
  exact ⟨_, ys, rfl, hyl, hyb, ho2.mono s1 (Nat.le_refl _), hd2.below⟩

end Go.Proofs.YtldemehfgfmiaaaDoor.Draw
