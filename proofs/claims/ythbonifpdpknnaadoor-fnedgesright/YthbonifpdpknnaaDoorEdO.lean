/- Appends as steps of regions that draw their order; rows that are owned and written into. -/
import Derived.Test.YthbonifpdpknnaaDoorEd5
namespace Go.Proofs.YthbonifpdpknnaaDoor.Ed
open Go.RowKit Go.Proofs.YthbonifpdpknnaaDoor.Mem Go.Proofs.YthbonifpdpknnaaDoor.Laws Go.Proofs.YthbonifpdpknnaaDoor.Bytes Go.Proofs.YthbonifpdpknnaaDoor.Sha Go.Proofs.YthbonifpdpknnaaDoor.Tr
set_option linter.unusedVariables false
set_option linter.unusedSimpArgs false

theorem World.grownBy_refl (w : World) (row : Option Nat) : w.grownBy w row := by
  first
    | exact ⟨rfl, rfl, rfl, Nat.le_refl _, fun _ _ _ => rfl⟩
    | exact ⟨Nat.le_refl _, fun _ _ _ => rfl, rfl, rfl, rfl⟩
    | (constructor <;> first | rfl | exact Nat.le_refl _ | (intros; rfl) | (intros; assumption))

/-- An append as one step of a region that draws its order; what turns beside the row. -/
theorem step_appG {P : Program} {ops : Array Oper} {o : Oper} {a : Act} {w : World} {K : Act → World → Prop} {Q : Exit → Act → World → Prop} {E : Prop}
    (hg : o.guard = none) (s x : Operand) (t : TypeId) (hop : o.op = Op.call { callee := Callee.builtin Builtin.append, args := #[s, x], argTypes := #[t, t] })
    (e : TypeId) (i : TypeInfo) (z : Value) (bytes : Nat) (ht : P.underlying t = some (.slice e)) (hi : P.info? e = some i) (hz : i.zero = some z) (hsize : i.size = 1) (hby : i.bytes = bytes) (hzs : z.cells.size = 1)
    (lo : Nat) (v : Value) (cs : List Value) (hs : a.eval s = v) (hown : Own w lo w.heap.size e v cs) (y : Value) (hx : a.eval x = y) (news : List Value) (hsl : Sl w y news)
    (h1 : ∀ u ∈ news, u.oneCell' = true) (h63 : cs.length + news.length ≤ maxLen) (hb : (cs.length + news.length) * bytes ≤ 140737488355328) (hlo : lo ≤ w.heap.size)
    (hK : ∀ v' w', Own w' lo w'.heap.size e v' (cs ++ news) → Below lo w w' → w.grownBy w' v.ownBlock → K (a.put o.dst v') w') : if Region.wanted o (yielded ops a.tmps) = true then Oper.wp P o a w K Q else E := by
  have hw : Region.wanted o (yielded ops a.tmps) = true := by simp [Region.wanted, hg]
  rw [if_pos hw]
  obtain ⟨ao, cap, rfl, hc, hn, hr⟩ := hsl
  have hblk : ∀ w', w.grownBy w' v.ownBlock → Below lo w w' := fun w' hg => (Below.refl _ _).grown hg hlo (fun k hk => (hown.1.lt k hk).1)
  cases ao with
  | none =>
    have hcap := hn rfl
    have hnil : news = [] := List.eq_nil_of_length_eq_zero (by omega)
    subst hnil
    subst hcap
    have hrun := run_append_owned_none (P := P) (w := w) lo t o.type e i 1 ht hi v cs.length cs hown.1
    unfold Oper.wp
    simp [execOp, hop, resolve, invoke, builtin, hs, hx, hrun, Result.andThen]
    exact hK v w (by simpa using hown) (Below.refl _ _) (World.grownBy_refl w v.ownBlock)
  | some ad =>
    refine wp_append_own w s x t hop lo e i z 1 bytes ht hi hz hsize hby hzs (by decide) v cs.length cs hs hown.1 ad news.length cap news hx (by simp) ?_ h1 h63 hb hlo ?_
    · intro j u hj
      have hlt : j < news.length := (List.getElem?_eq_some_iff.1 hj).1
      obtain ⟨b, off, he, hcell⟩ := hr (by omega)
      obtain rfl := Option.some.inj he
      rw [Addr.add_lit, hcell j hlt, hj]
    · intro v' w' ho hgr _
      exact hK v' w' (Own.of ho) (hblk w' hgr) hgr

theorem Own.owns {w : World} {lo hi : Nat} {e : TypeId} {v : Value} {cs : List Value} (h : Own w lo hi e v cs) {g : Nat} (hg : v.ownBlock = some g) : lo ≤ g ∧ g < hi := by
  obtain ⟨⟨h1, h2⟩, h3⟩ := h
  refine ⟨?_, h3 g hg⟩
  rcases h2 with ⟨rfl, _⟩ | ⟨g', cap, cur, rfl, hb, _⟩
  · cases hg
  · simp only [Value.ownBlock, Option.some.injEq] at hg
    omega

theorem Own.keepO {w w' : World} {lo hi : Nat} {e : TypeId} {v : Value} {cs : List Value} (h : Own w lo hi e v cs) (hk : ∀ g, v.ownBlock = some g → w'.heap[g]? = w.heap[g]?) : Own w' lo hi e v cs := by
  obtain ⟨⟨h1, h2⟩, h3⟩ := h
  refine ⟨⟨h1, ?_⟩, h3⟩
  rcases h2 with h2 | ⟨g, cap, cur, rfl, hb, hg, r⟩
  · exact .inl h2
  · exact .inr ⟨g, cap, cur, rfl, hb, by rw [hk g rfl]; exact hg, r⟩
theorem Own.put {w : World} {lo hi gb n cap : Nat} {l : List ByteArray} (h : Own w lo hi 9 (.slice (some ⟨gb, 0, none⟩) n cap) (ss l)) (k : Nat) (x : ByteArray) : Own (w.setCell ⟨gb, k, none⟩ (.string x)) lo hi 9 (.slice (some ⟨gb, 0, none⟩) n cap) (ss (l.set k x)) := by
  obtain ⟨⟨h1, h2⟩, h3⟩ := h
  have hl : (ss (l.set k x)).length = (ss l).length := by rw [ss_len, ss_len, List.length_set]
  refine ⟨⟨by rw [Nat.mul_one], ?_⟩, h3⟩
  rcases h2 with ⟨he, _⟩ | ⟨g', cap', cur, he, hb, hg, hnc, hcm, hcs, ht⟩
  · cases he
  · simp only [Value.slice.injEq, Option.some.injEq, Addr.mk.injEq] at he
    obtain ⟨⟨rfl, _⟩, rfl, rfl⟩ := he
    refine .inr ⟨gb, cap, cur.setIfInBounds k (.string x), by rw [hl], hb, row_set hg k _, by rw [hl]; exact hnc, hcm, by simp; omega, ?_⟩
    rw [hl, Array.toList_setIfInBounds, List.take_set, ht]
    simp [ss]
theorem Own.block0 {w : World} {lo hi n cap : Nat} {e : TypeId} {ao : Option Addr} {cs : List Value} (h : Own w lo hi e (.slice ao n cap) cs) (hp : 0 < n) : ∃ gb, ao = some ⟨gb, 0, none⟩ ∧ lo ≤ gb ∧ gb < hi ∧ (∃ cur, w.heap[gb]? = some (.cells cur e (0, 0)) ∧ 0 < cur.size) := by
  obtain ⟨⟨h1, h2⟩, h3⟩ := h
  rcases h2 with ⟨he, h0⟩ | ⟨g', cap', cur, he, hb, hg, hnc, hcm, hcs, ht⟩
  · simp only [Value.slice.injEq] at he
    omega
  · simp only [Value.slice.injEq] at he
    obtain ⟨rfl, rfl, rfl⟩ := he
    exact ⟨g', rfl, hb, h3 g' rfl, cur, hg, by omega⟩

end Go.Proofs.YthbonifpdpknnaaDoor.Ed
