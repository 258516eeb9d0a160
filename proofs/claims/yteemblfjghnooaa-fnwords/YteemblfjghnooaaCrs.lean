/- A cursor of draws behind other steps; numbers that the laws take of a code. -/
import Derived.Test.YteemblfjghnooaaLgD
import Derived.Test.YteemblfjghnooaaGro2
import Derived.Test.YteemblfjghnooaaNth
namespace Go.Proofs.Yteemblfjghnooaa.Draw
open Go.RowKit Go.Proofs.Yteemblfjghnooaa.Mem Go.Proofs.Yteemblfjghnooaa.Laws Go.Proofs.Yteemblfjghnooaa.Bytes Go.Proofs.Yteemblfjghnooaa.He
set_option linter.unusedVariables false
set_option linter.unusedSimpArgs false

theorem Cur.keep {w w' : World} {g : Nat} {vb : Value} {n : Nat} (h : Cur w g vb n) (b : Below w.heap.size w w') : Cur w' g vb n := h.later b h.lt
theorem Cur.gro {w w' : World} {g : Nat} {vb : Value} {n : Nat} {r : Option Nat} (h : Cur w g vb n) (gr : w.grownBy w' r) (hne : r ≠ some g) : Cur w' g vb n := by
  obtain ⟨i, x, hr, hi⟩ := h
  exact ⟨i, x, rowGro hr gr hne, hi⟩
theorem Cur.groOwn {w w' : World} {g lo hi : Nat} {vb v : Value} {n : Nat} {e : TypeId} {cs : List Value} (h : Cur w g vb n) (o : Own w lo hi e v cs) (gr : w.grownBy w' v.ownBlock) (ht : 78 ≠ e) : Cur w' g vb n := by
  obtain ⟨i, x, hr, hi⟩ := h
  exact ⟨i, x, rowGro hr gr (Own.neRow o hr ht), hi⟩

theorem lit1 (w : World) (lo : Nat) (x : Int) (h : lo ≤ w.heap.size) : Own (w.alloc (.cells #[.int .u8 x] 5)) lo (w.alloc (.cells #[.int .u8 x] 5)).heap.size 5 (.slice (some ⟨w.heap.size, 0, none⟩) 1 1) (bs [x]) :=
  Own.of (World.ownsRow_lit w #[.int .u8 x] 1 h (by unfold maxLen; omega) rfl)

theorem Own.blockG {w : World} {lo hi n cap : Nat} {e : TypeId} {ao : Option Addr} {cs : List Value} (h : Own w lo hi e (.slice ao n cap) cs) (hp : 0 < n) : ∃ gb, ao = some ⟨gb, 0, none⟩ ∧ lo ≤ gb ∧ gb < hi ∧ (∃ cur, w.heap[gb]? = some (.cells cur e (0, 0)) ∧ 0 < cur.size) := by
  obtain ⟨⟨h1, h2⟩, h3⟩ := h
  rcases h2 with ⟨he, h0⟩ | ⟨g', cap', cur, he, hb, hg, hnc, hcm, hcs, ht⟩
  · simp only [Value.slice.injEq] at he
    omega
  · simp only [Value.slice.injEq] at he
    obtain ⟨rfl, rfl, rfl⟩ := he
    exact ⟨g', rfl, hb, h3 g' rfl, cur, hg, by omega⟩
theorem Own.cellAt {w : World} {lo hi gb n cap : Nat} {e : TypeId} {cs : List Value} (h : Own w lo hi e (.slice (some ⟨gb, 0, none⟩) n cap) cs) {j : Nat} {x : Value} (hj : cs[j]? = some x) : w.cell? ⟨gb, j, none⟩ = some x := by
  obtain ⟨⟨h1, h2⟩, h3⟩ := h
  rcases h2 with ⟨he, h0⟩ | ⟨g', cap', cur, he, hb, hg, hnc, hcm, hcs, ht⟩
  · cases he
  · simp only [Value.slice.injEq, Option.some.injEq, Addr.mk.injEq] at he
    obtain ⟨⟨rfl, _⟩, rfl, rfl⟩ := he
    rw [← ht, List.getElem?_take] at hj
    split at hj
    · simpa [World.cell?, hg] using hj
    · cases hj
/-- a store into an element of a slice that is owned -/
theorem wp_elemG {P : Program} {op : Oper} {a : Act} {w : World} {K : Act → World → Prop} {Q : Exit → Act → World → Prop} (ty : TypeId) (x y : Operand) (ho : op.op = .store ty x y) {lo hi gb n cap k : Nat} {e : TypeId} {cs : List Value}
    (o : Own w lo hi e (.slice (some ⟨gb, 0, none⟩) n cap) cs) (hk : k < cs.length) (v : Value) (hx : a.eval x = .pointer (some ⟨gb, k, none⟩)) (hy : a.eval y = v) (hin : (P.info? ty).map (·.size) = some 1) (h1 : v.oneCell' = true)
    (h : ∀ w', Own w' lo hi e (.slice (some ⟨gb, 0, none⟩) n cap) (cs.set k v) → w.grownBy w' (some gb) → K (a.put op.dst undef) w') : op.wp P a w K Q := by
  obtain ⟨⟨e1, e2⟩, e3⟩ := o
  rcases e2 with ⟨he, _⟩ | ⟨g', cap', cur, he, hb, hg, hnc, hcm, hcs, ht⟩
  · cases he
  · simp only [Value.slice.injEq, Option.some.injEq, Addr.mk.injEq] at he
    obtain ⟨⟨rfl, _⟩, rfl, rfl⟩ := he
    refine wp_oneG ty x y ho gb k v hx hy cur.toList e (by simpa using hg) (by simp; omega) hin h1 (cur.toList.set k v) rfl ?_
    intro w' r g
    refine h w' ⟨⟨by simp, .inr ⟨gb, cap, (cur.toList.set k v).toArray, by simp, hb, r, by simpa using hnc, hcm, by simpa using hcs, ?_⟩⟩, e3⟩ g
    simp only [List.length_set]
    rw [List.take_set, ht]

/-- what laws.at answers -/
def atV (xs : List Int) (i : Nat) : Nat := ((xs[i]?).getD (((i : Int) * 31 + (xs.length : Int) * 7) % 256)).toNat
theorem atV_le {xs : List Int} (hb : Byt xs) (i : Nat) : atV xs i ≤ 255 := by
  unfold atV
  cases h : xs[i]? with
  | none => simp only [Option.getD_none]; omega
  | some c => have := hb c (List.mem_of_getElem? h); simp only [Option.getD_some]; omega

end Go.Proofs.Yteemblfjghnooaa.Draw
