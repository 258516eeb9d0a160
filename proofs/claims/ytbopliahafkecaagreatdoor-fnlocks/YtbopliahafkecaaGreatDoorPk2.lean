/- Texts in one: Laws, Row. -/
import Derived.Test.YtbopliahafkecaaGreatDoorPk1
import Derived.Laws.AppendOwnNone
import Derived.Lib.AppendStr
import Derived.Laws.CopyOwn
/- What an append does to a row that the call owns, in the words of 'Own' and 'Sl'; no program is named here. -/
namespace Go.Proofs.YtbopliahafkecaaGreatDoor.Laws
open Go.RowKit Go.Proofs.YtbopliahafkecaaGreatDoor.Mem

/-- a string's bytes -/
def sb (s : ByteArray) : List Int := s.data.toList.map fun b => (b.toNat : Int)
theorem sb_len (s : ByteArray) : (sb s).length = s.size := by simp [sb]
theorem sb_cells (s : ByteArray) : Lib.strCells s = bs (sb s) := by simp [Lib.strCells, bs, sb, Function.comp_def]
theorem sb_byt (s : ByteArray) : Byt (sb s) := by
  intro x hx
  obtain ⟨b, _, rfl⟩ := List.mem_map.1 hx
  have := b.toNat_lt
  omega

theorem bs_one (xs : List Int) : ∀ u ∈ bs xs, u.oneCell' = true := ints_oneCell _ _

theorem Sl.one (w : World) (u : Value) (t : TypeId) : Sl (w.alloc (.cells #[u] t)) (.slice (some ⟨w.heap.size, 0, none⟩) 1 1) [u] := by
  refine ⟨some ⟨w.heap.size, 0, none⟩, 1, rfl, by simp, fun h => (by cases h), fun _ => ⟨w.heap.size, 0, rfl, fun j hj => ?_⟩⟩
  have hj0 : j = 0 := by simp at hj; omega
  subst hj0
  rw [cell_of_row _ w.heap.size 0 #[u] t (0, 0) (heap_alloc_new w _)]
  simp

theorem full_block {w : World} {base : Nat} {e : TypeId} {g n : Nat} {L : List Value} (h : w.ownsRow base e 1 (.slice (some ⟨g, 0, none⟩) n n) n L) : w.heap[g]? = some (.cells L.toArray e (0, 0)) := by
  obtain ⟨_, h2⟩ := h
  rcases h2 with ⟨h2, _⟩ | ⟨g', cap, cur, he, hb, hg, hnc, hcm, hcs, ht⟩
  · simp at h2
  · simp only [Value.slice.injEq, Option.some.injEq, Addr.mk.injEq, and_true, true_and] at he
    obtain ⟨rfl, rfl⟩ := he
    rw [List.take_of_length_le (by rw [Array.length_toList, hcs]; exact Nat.le_refl _)] at ht
    subst ht
    simpa using hg
theorem full_own {w : World} {base : Nat} {e : TypeId} {g n : Nat} {L : List Value} (hg : w.heap[g]? = some (.cells L.toArray e (0, 0))) (hb : base ≤ g) (hn : L.length = n) (hm : n ≤ maxLen) : w.ownsRow base e 1 (.slice (some ⟨g, 0, none⟩) n n) n L :=
  ⟨by omega, .inr ⟨g, n, L.toArray, rfl, hb, hg, Nat.le_refl _, hm, by simp [hn], by simp [← hn]⟩⟩
theorem splice_all {α : Type} {L C : List α} (h : L.length = C.length) : splice L 0 C = C := by
  unfold splice
  simp [h]

theorem wpl_app {P : Program} (w : World) {ops : Array Oper} {rest : List Oper} {o : Oper} {a : Act} {Q : Exit → Act → World → Prop}
    (hg : o.guard = none) (s x : Operand) (t : TypeId) (hop : o.op = Op.call { callee := Callee.builtin Builtin.append, args := #[s, x], argTypes := #[t, t] })
    (e : TypeId) (i : TypeInfo) (z : Value) (bytes : Nat) (ht : P.underlying t = some (.slice e)) (hi : P.info? e = some i) (hz : i.zero = some z) (hsize : i.size = 1) (hby : i.bytes = bytes) (hzs : z.cells.size = 1)
    (lo : Nat) (v : Value) (cs : List Value) (hs : a.eval s = v) (hown : Own w lo w.heap.size e v cs) (y : Value) (hx : a.eval x = y) (news : List Value) (hsl : Sl w y news)
    (h1 : ∀ u ∈ news, u.oneCell' = true) (h63 : cs.length + news.length ≤ maxLen) (hb : (cs.length + news.length) * bytes ≤ 140737488355328) (hlo : lo ≤ w.heap.size)
    (hK : ∀ v' w', Own w' lo w'.heap.size e v' (cs ++ news) → Below lo w w' → w.grownBy w' v.ownBlock → wpList P ops Q rest (a.put o.dst v') w') : wpList P ops Q (o :: rest) a w := by
  obtain ⟨ao, cap, rfl, hc, hn, hr⟩ := hsl
  have hblk : ∀ w', w.grownBy w' v.ownBlock → Below lo w w' := fun w' hg => (Below.refl _ _).grown hg hlo (fun k hk => (hown.1.lt k hk).1)
  cases ao with
  | none =>
    have hcap := hn rfl
    have hnil : news = [] := List.eq_nil_of_length_eq_zero (by omega)
    subst hnil
    subst hcap
    refine wpList_append_own_none hg s x t hop lo e i 1 ht hi v cs.length cs hs hown.1 hx ?_
    exact hK v w (by simpa using hown) (Below.refl _ _) (World.grownBy.refl _ _)
  | some ad =>
    refine wpList_append_own w hg s x t hop lo e i z 1 bytes ht hi hz hsize hby hzs (by decide) v cs.length cs hs hown.1 ad news.length cap news hx (by simp) ?_ h1 h63 hb hlo ?_
    · intro j u hj
      have hlt : j < news.length := (List.getElem?_eq_some_iff.1 hj).1
      obtain ⟨b, off, he, hcell⟩ := hr (by omega)
      obtain rfl := Option.some.inj he
      rw [Addr.add_lit, hcell j hlt, hj]
    · intro v' w' ho hgr _
      exact hK v' w' (Own.of ho) (hblk w' hgr) hgr

/-- The same as one step of a region that draws its order. -/
theorem step_app {P : Program} {ops : Array Oper} {o : Oper} {a : Act} {w : World} {K : Act → World → Prop} {Q : Exit → Act → World → Prop} {E : Prop}
    (hg : o.guard = none) (s x : Operand) (t : TypeId) (hop : o.op = Op.call { callee := Callee.builtin Builtin.append, args := #[s, x], argTypes := #[t, t] })
    (e : TypeId) (i : TypeInfo) (z : Value) (bytes : Nat) (ht : P.underlying t = some (.slice e)) (hi : P.info? e = some i) (hz : i.zero = some z) (hsize : i.size = 1) (hby : i.bytes = bytes) (hzs : z.cells.size = 1)
    (lo : Nat) (v : Value) (cs : List Value) (hs : a.eval s = v) (hown : Own w lo w.heap.size e v cs) (y : Value) (hx : a.eval x = y) (news : List Value) (hsl : Sl w y news)
    (h1 : ∀ u ∈ news, u.oneCell' = true) (h63 : cs.length + news.length ≤ maxLen) (hb : (cs.length + news.length) * bytes ≤ 140737488355328) (hlo : lo ≤ w.heap.size)
    (hK : ∀ v' w', Own w' lo w'.heap.size e v' (cs ++ news) → Below lo w w' → K (a.put o.dst v') w') : if Region.wanted o (yielded ops a.tmps) = true then Oper.wp P o a w K Q else E := by
  have hw : Region.wanted o (yielded ops a.tmps) = true := by simp [Region.wanted, hg]
  rw [if_pos hw]
  obtain ⟨ao, cap, rfl, hc, hn, hr⟩ := hsl
  have hblk : ∀ w', w.grownBy w' v.ownBlock → Below lo w w' := fun w' hg => (Below.refl _ _).grown hg hlo (fun k hk => (hown.1.lt k hk).1)
  cases ao with
  | none =>
    have hcap := hn rfl
    have hnil : news = [] := List.eq_nil_of_length_eq_zero (by omega)
    subst hnil
    subst hcap
    have hrun := run_append_owned_none (P := P) (w := w) lo t o.type e i 1 ht hi v cs.length cs hown.1
    unfold Oper.wp
    simp [execOp, hop, resolve, invoke, builtin, hs, hx, hrun, Result.andThen]
    exact hK v w (by simpa using hown) (Below.refl _ _)
  | some ad =>
    refine wp_append_own w s x t hop lo e i z 1 bytes ht hi hz hsize hby hzs (by decide) v cs.length cs hs hown.1 ad news.length cap news hx (by simp) ?_ h1 h63 hb hlo ?_
    · intro j u hj
      have hlt : j < news.length := (List.getElem?_eq_some_iff.1 hj).1
      obtain ⟨b, off, he, hcell⟩ := hr (by omega)
      obtain rfl := Option.some.inj he
      rw [Addr.add_lit, hcell j hlt, hj]
    · intro v' w' ho hgr _
      exact hK v' w' (Own.of ho) (hblk w' hgr)

theorem wpl_str {P : Program} (w : World) {ops : Array Oper} {rest : List Oper} {o : Oper} {a : Act} {Q : Exit → Act → World → Prop}
    (hg : o.guard = none) (s x : Operand) (t u : TypeId) (hop : o.op = Op.call { callee := Callee.builtin Builtin.append, args := #[s, x], argTypes := #[t, u] })
    (e : TypeId) (i : TypeInfo) (ht : P.underlying t = some (.slice e)) (hu : P.underlying u = some .string) (hi : P.info? e = some i) (hz : i.zero = some (.int .u8 0)) (hsize : i.size = 1) (hby : i.bytes = 1)
    (lo : Nat) (v : Value) (xs : List Int) (hs : a.eval s = v) (hown : Own w lo w.heap.size e v (bs xs)) (y : ByteArray) (hx : a.eval x = .string y)
    (hb : xs.length + y.size ≤ 140737488355328) (hlo : lo ≤ w.heap.size)
    (hK : ∀ v' w', Own w' lo w'.heap.size e v' (bs (xs ++ sb y)) → Below lo w w' → wpList P ops Q rest (a.put o.dst v') w') : wpList P ops Q (o :: rest) a w := by
  refine Lib.wpList_append_own_string w hg s x t u hop lo e i ht hu hi hz hsize hby v (bs xs).length (bs xs) hs hown.1 y hx (by rw [bs_len]; unfold maxLen; omega) (by rw [bs_len]; omega) hlo ?_
  intro v' w' ho hgr _
  rw [sb_cells, ← bs_app] at ho
  exact hK v' w' (Own.of ho) ((Below.refl _ _).grown hgr hlo (fun k hk => (hown.1.lt k hk).1))

end Go.Proofs.YtbopliahafkecaaGreatDoor.Laws

/- Slices whose elements have several cells: what such a slice reads ('Sn'), what a call owns ('On'), what an append does; no program is named here. -/
namespace Go.Proofs.YtbopliahafkecaaGreatDoor.Mem
open Go.RowKit
set_option linter.unusedVariables false
set_option linter.unusedSimpArgs false

/-- v is a slice of m elements of n cells each, which hold cs. -/
def Sn (n : Nat) (w : World) (v : Value) (m : Nat) (cs : List Value) : Prop :=
  cs.length = m * n ∧ ∃ (ao : Option Addr) (cap : Nat), v = .slice ao m cap ∧ m ≤ cap ∧ (ao = none → cap = 0) ∧
    (0 < m → ∃ b off, ao = some ⟨b, off, none⟩ ∧ ∀ j, j < cs.length → w.cell? ⟨b, off + j, none⟩ = cs[j]?)

/-- v owns m elements of n cells each, which hold cs, in a block from lo on and below hi. -/
def On (n : Nat) (w : World) (lo hi : Nat) (e : TypeId) (v : Value) (m : Nat) (cs : List Value) : Prop :=
  w.ownsRow lo e n v m cs ∧ ∀ g, v.ownBlock = some g → g < hi

theorem Sn.nil (n : Nat) (w : World) : Sn n w (.slice none 0 0) 0 [] := ⟨by simp, none, 0, rfl, Nat.le_refl _, fun _ => rfl, fun h => by omega⟩

theorem Sn.later {n m : Nat} {w w' : World} {v : Value} {cs : List Value} (h : Sn n w v m cs) (hb : Below w.heap.size w w') : Sn n w' v m cs := by
  obtain ⟨hl, ao, cap, rfl, hc, hn, hr⟩ := h
  refine ⟨hl, ao, cap, rfl, hc, hn, fun hp => ?_⟩
  obtain ⟨b, off, rfl, hcell⟩ := hr hp
  refine ⟨b, off, rfl, fun j hj => ?_⟩
  have hlt : b < w.heap.size := World.block_lt_of_cell? w ⟨b, off + j, none⟩ (u := cs[j]) (by rw [hcell j hj]; simp [hj])
  rw [hb.cell (p := ⟨b, off + j, none⟩) hlt]
  exact hcell j hj
theorem Sn.quiet {n m : Nat} {w : World} {v : Value} {cs : List Value} (h : Sn n w v m cs) (k : Nat) : Sn n (w.drewN k) v m cs := h

/-- the beginning of a slice -/
theorem Sn.front {n m : Nat} {w : World} {ao : Option Addr} {cap : Nat} {cs : List Value} (h : Sn n w (.slice ao m cap) m cs) (k : Nat) (hk : k ≤ m) : Sn n w (.slice ao k cap) k (cs.take (k * n)) := by
  obtain ⟨hl, ao', cap', he, hc, hn, hr⟩ := h
  simp only [Value.slice.injEq] at he
  obtain ⟨rfl, _, rfl⟩ := he
  have hkn : k * n ≤ m * n := Nat.mul_le_mul_right _ hk
  have hl2 : (cs.take (k * n)).length = k * n := by rw [List.length_take, hl]; omega
  refine ⟨hl2, ao, cap, rfl, by omega, hn, fun hp => ?_⟩
  obtain ⟨b, off, rfl, hcell⟩ := hr (by omega)
  refine ⟨b, off, rfl, fun j hj => ?_⟩
  rw [hl2] at hj
  rw [hcell j (by omega), List.getElem?_take, if_pos hj]

/-- where the cells of an element lie -/
theorem Sn.at {n m : Nat} {w : World} {v : Value} {cs : List Value} (h : Sn n w v m cs) {k : Nat} (hk : k < m) : ∃ b off cap, v = .slice (some ⟨b, off, none⟩) m cap ∧ m ≤ cap ∧ ∀ j, j < n → w.cell? ⟨b, off + (k * n + j), none⟩ = cs[k * n + j]? := by
  obtain ⟨hl, ao, cap, rfl, hc, hn, hr⟩ := h
  obtain ⟨b, off, rfl, hcell⟩ := hr (by omega)
  refine ⟨b, off, cap, rfl, hc, fun j hj => hcell _ ?_⟩
  have : (k + 1) * n ≤ m * n := Nat.mul_le_mul_right _ hk
  rw [Nat.add_mul, Nat.one_mul] at this
  omega

theorem On.sn {n m : Nat} {w : World} {lo hi : Nat} {e : TypeId} {v : Value} {cs : List Value} (h : On n w lo hi e v m cs) : Sn n w v m cs := by
  obtain ⟨⟨h1, h2⟩, _⟩ := h
  rcases h2 with ⟨rfl, rfl⟩ | ⟨g, cap, cur, rfl, hb, hg, hnc, hcm, hcs, ht⟩
  · have : cs = [] := List.eq_nil_of_length_eq_zero (by simpa using h1)
    subst this
    exact Sn.nil n w
  · refine ⟨h1, some ⟨g, 0, none⟩, cap, rfl, hnc, fun h => by simp at h, fun _ => ⟨g, 0, rfl, fun j hj => ?_⟩⟩
    rw [Nat.zero_add, cell_of_row w g j cur e (0, 0) hg]
    have : cs[j]? = (cur.toList.take (m * n))[j]? := by rw [ht]
    rw [this, List.getElem?_take, if_pos (by omega)]
    simp

theorem On.keep {n m : Nat} {w w' : World} {lo hi : Nat} {e : TypeId} {v : Value} {cs : List Value} (h : On n w lo hi e v m cs) (hk : ∀ k, lo ≤ k → k < hi → w'.heap[k]? = w.heap[k]?) : On n w' lo hi e v m cs := by
  obtain ⟨⟨h1, h2⟩, h3⟩ := h
  refine ⟨⟨h1, ?_⟩, h3⟩
  rcases h2 with h2 | ⟨g, cap, cur, rfl, hb, hg, r⟩
  · exact .inl h2
  · exact .inr ⟨g, cap, cur, rfl, hb, by rw [hk g hb (h3 g rfl)]; exact hg, r⟩
theorem On.later {n m : Nat} {w w' : World} {lo hi B : Nat} {e : TypeId} {v : Value} {cs : List Value} (h : On n w lo hi e v m cs) (hb : Below B w w') (hB : hi ≤ B) : On n w' lo hi e v m cs :=
  h.keep fun k _ hk => hb.block k (by omega)
theorem On.apart {n m : Nat} {w w' : World} {lo hi l2 h2 : Nat} {e : TypeId} {v : Value} {cs : List Value} (h : On n w lo hi e v m cs) (hb : Apart l2 h2 w w') (hd : hi ≤ l2 ∨ h2 ≤ lo) (hs : hi ≤ w.heap.size) : On n w' lo hi e v m cs :=
  h.keep fun k _ _ => hb.block k (by omega) (by omega)
theorem On.mono {n m : Nat} {w : World} {lo hi lo' hi' : Nat} {e : TypeId} {v : Value} {cs : List Value} (h : On n w lo hi e v m cs) (h1 : lo' ≤ lo) (h2 : hi ≤ hi') : On n w lo' hi' e v m cs := by
  obtain ⟨⟨ha, hb⟩, hc⟩ := h
  refine ⟨⟨ha, ?_⟩, fun g hg => Nat.lt_of_lt_of_le (hc g hg) h2⟩
  rcases hb with hb | ⟨g, cap, cur, rfl, hb, r⟩
  · exact .inl hb
  · exact .inr ⟨g, cap, cur, rfl, by omega, r⟩
theorem On.of {n m : Nat} {w : World} {lo : Nat} {e : TypeId} {v : Value} {cs : List Value} (h : w.ownsRow lo e n v m cs) : On n w lo w.heap.size e v m cs := ⟨h, fun g hg => (h.lt g hg).2⟩
theorem On.quiet {n m : Nat} {w : World} {lo hi : Nat} {e : TypeId} {v : Value} {cs : List Value} (h : On n w lo hi e v m cs) (k : Nat) : On n (w.drewN k) lo hi e v m cs := h
theorem On.alloc {n m : Nat} {w : World} {lo : Nat} {e : TypeId} {v : Value} {cs : List Value} (h : On n w lo w.heap.size e v m cs) (o : Obj) : On n (w.alloc o) lo (w.alloc o).heap.size e v m cs := On.of (h.1.alloc o)
/-- a world that has grown above -/
theorem On.grow {n m : Nat} {w w' : World} {lo : Nat} {e : TypeId} {v : Value} {cs : List Value} (h : On n w lo w.heap.size e v m cs) (hb : Below w.heap.size w w') : On n w' lo w'.heap.size e v m cs :=
  (h.later hb (Nat.le_refl _)).mono (Nat.le_refl _) hb.size
theorem On.nil (n : Nat) (w : World) (lo hi : Nat) (e : TypeId) : On n w lo hi e (.slice none 0 0) 0 [] := ⟨World.ownsRow_nil w lo e n, fun g hg => by simp [Value.ownBlock] at hg⟩
theorem On.lit (n : Nat) (w : World) (lo : Nat) (e : TypeId) (h : lo ≤ w.heap.size) : On n (w.alloc (.cells #[] e)) lo (w.alloc (.cells #[] e)).heap.size e (.slice (some ⟨w.heap.size, 0, none⟩) 0 0) 0 [] :=
  On.of ⟨by simp, .inr ⟨w.heap.size, 0, #[], rfl, h, heap_alloc_new w _, Nat.le_refl _, Nat.zero_le _, by simp, by simp⟩⟩
theorem On.size {n m : Nat} {w : World} {lo hi : Nat} {e : TypeId} {v : Value} {cs : List Value} (h : On n w lo hi e v m cs) : cs.length = m * n := h.1.1
theorem On.slice {n m : Nat} {w : World} {lo hi : Nat} {e : TypeId} {v : Value} {cs : List Value} (h : On n w lo hi e v m cs) : ∃ ao cap, v = .slice ao m cap := by
  obtain ⟨_, ao, cap, rfl, _⟩ := h.sn
  exact ⟨ao, cap, rfl⟩
theorem Own.on {w : World} {lo hi : Nat} {e : TypeId} {v : Value} {cs : List Value} (h : Own w lo hi e v cs) : On 1 w lo hi e v cs.length cs := h

/-- a new row of cells read as one element -/
theorem Sn.one (n : Nat) (w : World) (cs : Array Value) (t : TypeId) (h : cs.size = n) : Sn n (w.alloc (.cells cs t)) (.slice (some ⟨w.heap.size, 0, none⟩) 1 1) 1 cs.toList := by
  refine ⟨by simp [h], some ⟨w.heap.size, 0, none⟩, 1, rfl, by simp, fun h => (by cases h), fun _ => ⟨w.heap.size, 0, rfl, fun j hj => ?_⟩⟩
  rw [cell_of_row _ w.heap.size (0 + j) cs t (0, 0) (heap_alloc_new w _)]
  simp

theorem wpl_appn {P : Program} (n : Nat) (hn0 : 0 < n) (w : World) {ops : Array Oper} {rest : List Oper} {o : Oper} {a : Act} {Q : Exit → Act → World → Prop}
    (hg : o.guard = none) (s x : Operand) (t : TypeId) (hop : o.op = Op.call { callee := Callee.builtin Builtin.append, args := #[s, x], argTypes := #[t, t] })
    (e : TypeId) (i : TypeInfo) (z : Value) (bytes : Nat) (ht : P.underlying t = some (.slice e)) (hi : P.info? e = some i) (hz : i.zero = some z) (hsize : i.size = n) (hby : i.bytes = bytes) (hzs : z.cells.size = n)
    (lo : Nat) (v : Value) (m : Nat) (cs : List Value) (hs : a.eval s = v) (hown : On n w lo w.heap.size e v m cs) (y : Value) (hx : a.eval x = y) (k : Nat) (news : List Value) (hsl : Sn n w y k news)
    (h1 : ∀ u ∈ news, u.oneCell' = true) (h63 : m + k ≤ maxLen) (hb : (m + k) * bytes ≤ 140737488355328) (hlo : lo ≤ w.heap.size)
    (hK : ∀ v' w', On n w' lo w'.heap.size e v' (m + k) (cs ++ news) → Below lo w w' → w.grownBy w' v.ownBlock → wpList P ops Q rest (a.put o.dst v') w') : wpList P ops Q (o :: rest) a w := by
  obtain ⟨hl, ao, cap, rfl, hc, hn, hr⟩ := hsl
  have hblk : ∀ w', w.grownBy w' v.ownBlock → Below lo w w' := fun w' hg => (Below.refl _ _).grown hg hlo (fun k hk => (hown.1.lt k hk).1)
  cases ao with
  | none =>
    have hcap := hn rfl
    have hk0 : k = 0 := by omega
    subst hk0
    have hnil : news = [] := List.eq_nil_of_length_eq_zero (by simpa using hl)
    subst hnil
    subst hcap
    refine wpList_append_own_none hg s x t hop lo e i n ht hi v m cs hs hown.1 hx ?_
    exact hK v w (by simpa using hown) (Below.refl _ _) (World.grownBy.refl _ _)
  | some ad =>
    refine wpList_append_own w hg s x t hop lo e i z n bytes ht hi hz hsize hby hzs hn0 v m cs hs hown.1 ad k cap news hx hl ?_ h1 h63 hb hlo ?_
    · intro j u hj
      have hlt : j < news.length := (List.getElem?_eq_some_iff.1 hj).1
      obtain ⟨b, off, he, hcell⟩ := hr (by
        rcases Nat.eq_zero_or_pos k with h0 | h0
        · subst h0; simp at hl; subst hl; simp at hlt
        · exact h0)
      obtain rfl := Option.some.inj he
      rw [Addr.add_lit, hcell j hlt, hj]
    · intro v' w' ho hgr _
      exact hK v' w' (On.of ho) (hblk w' hgr) hgr

end Go.Proofs.YtbopliahafkecaaGreatDoor.Mem
