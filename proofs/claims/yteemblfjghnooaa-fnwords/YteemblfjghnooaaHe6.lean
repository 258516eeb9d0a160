/- Chapter 10: drawn heads. -/
import Derived.Test.YteemblfjghnooaaHeO
import Derived.Test.YteemblfjghnooaaTrD
namespace Go.Proofs.Yteemblfjghnooaa.He
open Go.RowKit Go.Proofs.Yteemblfjghnooaa.Mem Go.Proofs.Yteemblfjghnooaa.Laws Go.Proofs.Yteemblfjghnooaa.Bytes Go.Proofs.Yteemblfjghnooaa.Sha Go.Proofs.Yteemblfjghnooaa.Tr Go.Proofs.Yteemblfjghnooaa.Draw
set_option linter.unusedVariables false
set_option linter.unusedSimpArgs false

set_option maxRecDepth 1000000 in
theorem once10 (W0 w : World) (g : Nat) (vb : Value) (xs : List Int) (n : Int) (hn1 : 1 ≤ n) (hn2 : n ≤ 9223372036854775807) (hs : Sl W0 vb (bs xs)) (hby : Byt xs) (hx : xs.length ≤ 140737488355328) (hB : Below W0.heap.size W0 w) (hg : W0.heap.size ≤ g) (hc : Cur w g vb xs.length) :
    Calls Try.prog 54 #[.pointer (some ⟨g, 0, none⟩), .int .i64 n] w fun e w' => ∃ b : Bool, e = .returned (.bool b) ∧ Drawn W0 w g vb xs w' := by
  go_enter Try.func54, Try.ntmps54
  go_wp2_with fail
  refine (below_any W0 _ g vb xs n hn1 hn2 hs hby hx hB hg hc).mono ?_
  rintro e w2 ⟨a, rfl, a0, a1, hd2⟩
  go_wp2_with fail
  go_ret
  exact ⟨_, rfl, hd2⟩

theorem Oh.drawn {W0 w w' : World} {g lo hi : Nat} {vb : Value} {xs : List Int} {v : Value} {t : List Hd} (h : Oh w lo hi v t) (hd : Drawn W0 w g vb xs w') (hgl : g < lo ∨ hi ≤ g) (hh : hi ≤ w.heap.size) : Oh w' lo hi v t :=
  On.apart h hd.apart (by omega) hh
theorem Oh.up {w w' : World} {lo : Nat} {v : Value} {t : List Hd} (h : Oh w lo w.heap.size v t) (hk : Oh w' lo w.heap.size v t) (hs : w.heap.size ≤ w'.heap.size) : Oh w' lo w'.heap.size v t := On.mono hk (Nat.le_refl _) hs
theorem Oh.none (w : World) (lo : Nat) (h : lo ≤ w.heap.size) : Oh (w.alloc (.cells #[] 25)) lo (w.alloc (.cells #[] 25)).heap.size (.slice (some ⟨w.heap.size, 0, none⟩) 0 0) [] := On.lit 2 w lo 25 h
theorem Sh.one (w : World) (h : Hd) : Sn 2 (w.alloc (.cells #[.int .i64 h.n, .string h.r] 25)) (.slice (some ⟨w.heap.size, 0, none⟩) 1 1) 1 h.cs := Sn.one 2 w (hc h) 25 rfl
theorem cs_one (h : Hd) : ∀ u ∈ h.cs, u.oneCell' = true := by
  intro u hu
  simp only [Hd.cs, List.mem_cons, List.not_mem_nil, or_false] at hu
  rcases hu with rfl | rfl <;> rfl
theorem Oh.snoc {w : World} {lo hi : Nat} {v : Value} {t : List Hd} {h : Hd} (o : On 2 w lo hi 25 v (t.length + 1) (hds t ++ h.cs)) : Oh w lo hi v (t ++ [h]) := by
  unfold Oh
  rw [hds_snoc, List.length_append]
  exact o

end Go.Proofs.Yteemblfjghnooaa.He
