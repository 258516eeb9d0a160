/- Texts in one: Mem. -/
import Derived.WalkKit
import Derived.WalkSmall
import Derived.Deep.Draws
/- What a slice reads ('Sl'), what a call owns ('Own'), and what stays of both where a world has grown or one row alone was written; no program is named here. -/
namespace Go.Proofs.YtbopliahafkecaaGreatDoor.Mem
open Go.RowKit

/-- v is a slice whose cells hold cs. -/
def Sl (w : World) (v : Value) (cs : List Value) : Prop :=
  ∃ (ao : Option Addr) (cap : Nat), v = .slice ao cs.length cap ∧ cs.length ≤ cap ∧ (ao = none → cap = 0) ∧
    (0 < cs.length → ∃ b off, ao = some ⟨b, off, none⟩ ∧ ∀ j, j < cs.length → w.cell? ⟨b, off + j, none⟩ = cs[j]?)

/-- v owns the cells cs, in a block from lo on and below hi. -/
def Own (w : World) (lo hi : Nat) (e : TypeId) (v : Value) (cs : List Value) : Prop :=
  w.ownsRow lo e 1 v cs.length cs ∧ ∀ g, v.ownBlock = some g → g < hi

/-- bytes as cells -/
def bs (xs : List Int) : List Value := xs.map (Value.int .u8)
/-- each is a byte -/
def Byt (xs : List Int) : Prop := ∀ x ∈ xs, 0 ≤ x ∧ x ≤ 255

theorem bs_len (xs : List Int) : (bs xs).length = xs.length := by simp [bs]
theorem bs_app (xs ys : List Int) : bs (xs ++ ys) = bs xs ++ bs ys := by simp [bs]
theorem bs_get (xs : List Int) (j : Nat) : (bs xs)[j]? = (xs[j]?).map (Value.int .u8) := by simp [bs]
theorem Byt.app {xs ys : List Int} (h : Byt xs) (k : Byt ys) : Byt (xs ++ ys) := by
  intro x hx
  rcases List.mem_append.1 hx with hx | hx
  · exact h x hx
  · exact k x hx
theorem Byt.at {xs : List Int} (h : Byt xs) {k : Nat} {c : Int} (hc : xs[k]? = some c) : 0 ≤ c ∧ c ≤ 255 := h c (List.mem_of_getElem? hc)

/-- texts as cells -/
def ss (l : List ByteArray) : List Value := l.map Value.string
theorem ss_len (l : List ByteArray) : (ss l).length = l.length := by simp [ss]
theorem ss_app (l r : List ByteArray) : ss (l ++ r) = ss l ++ ss r := by simp [ss]
theorem ss_get (l : List ByteArray) (j : Nat) : (ss l)[j]? = (l[j]?).map Value.string := by simp [ss]
theorem ss_one (l : List ByteArray) : ∀ u ∈ ss l, u.oneCell' = true := by
  intro u hu
  obtain ⟨_, _, rfl⟩ := List.mem_map.1 hu
  rfl

theorem Sl.strAt {w : World} {ao : Option Addr} {n : Nat} {l : List ByteArray}
    (h : 0 < n → ∃ b off, ao = some ⟨b, off, none⟩ ∧ ∀ j, j < n → w.cell? ⟨b, off + j, none⟩ = (ss l)[j]?) (hn : n = l.length) {k : Nat} (hk : k < n) :
    ∃ b off s, ao = some ⟨b, off, none⟩ ∧ l[k]? = some s ∧ w.cell? ⟨b, off + k, none⟩ = some (.string s) := by
  obtain ⟨b, off, rfl, hc⟩ := h (by omega)
  refine ⟨b, off, l[k]'(by omega), rfl, by simp, ?_⟩
  rw [hc k hk, ss_get]
  simp [show k < l.length by omega]

/-- The same world, but for the blocks from lo on and below hi, and new ones. -/
structure Apart (lo hi : Nat) (w w' : World) : Prop where
  os : w'.os = w.os
  tape : w'.tape = w.tape
  output : w'.output = w.output
  size : w.heap.size ≤ w'.heap.size
  block : ∀ k, k < w.heap.size → ¬ (lo ≤ k ∧ k < hi) → w'.heap[k]? = w.heap[k]?

theorem Apart.refl (lo hi : Nat) (w : World) : Apart lo hi w w := ⟨rfl, rfl, rfl, Nat.le_refl _, fun _ _ _ => rfl⟩

theorem Apart.below {lo hi B : Nat} {w w' : World} (h : Apart lo hi w w') (hB : B ≤ lo) (hs : B ≤ w.heap.size) : Below B w w' :=
  ⟨h.os, h.tape, h.output, h.size, fun k hk => h.block k (by omega) (by omega)⟩

theorem Apart.setCell {lo hi : Nat} {a w : World} (h : Apart lo hi a w) {p : Addr} (h1 : lo ≤ p.block) (h2 : p.block < hi) (u : Value) : Apart lo hi a (w.setCell p u) :=
  ⟨h.os, h.tape, h.output, by simp [World.setCell, h.size], fun k hk1 hk => by
    rw [Below.heap_setCell _ _ _ _ (by omega)]; exact h.block k hk1 hk⟩

theorem Apart.quiet {lo hi : Nat} {a w : World} (h : Apart lo hi a w) (n : Nat) : Apart lo hi a (w.drewN n) := ⟨h.os, h.tape, h.output, h.size, h.block⟩

theorem Apart.on {lo hi : Nat} {a w w' : World} (h : Apart lo hi a w) (hb : Below a.heap.size w w') : Apart lo hi a w' :=
  ⟨hb.os.trans h.os, hb.tape.trans h.tape, hb.output.trans h.output, Nat.le_trans h.size hb.size, fun k hk1 hk => (hb.block k hk1).trans (h.block k hk1 hk)⟩

theorem Apart.trans {lo hi : Nat} {a b c : World} (h : Apart lo hi a b) (k : Apart lo hi b c) : Apart lo hi a c :=
  ⟨k.os.trans h.os, k.tape.trans h.tape, k.output.trans h.output, Nat.le_trans h.size k.size, fun i hi1 hi2 => (k.block i (Nat.lt_of_lt_of_le hi1 h.size) hi2).trans (h.block i hi1 hi2)⟩

theorem Apart.grow {lo hi : Nat} {a w w' : World} (h : Apart lo hi a w) (hb : Below w.heap.size w w') : Apart lo hi a w' :=
  ⟨hb.os.trans h.os, hb.tape.trans h.tape, hb.output.trans h.output, Nat.le_trans h.size hb.size, fun k hk1 hk => (hb.block k (Nat.lt_of_lt_of_le hk1 h.size)).trans (h.block k hk1 hk)⟩

theorem Sl.nil (w : World) : Sl w (.slice none 0 0) [] := ⟨none, 0, rfl, Nat.le_refl _, fun _ => rfl, fun h => by simp at h⟩

theorem Sl.later {w w' : World} {v : Value} {cs : List Value} (h : Sl w v cs) (hb : Below w.heap.size w w') : Sl w' v cs := by
  obtain ⟨ao, cap, rfl, hc, hn, hr⟩ := h
  refine ⟨ao, cap, rfl, hc, hn, fun hp => ?_⟩
  obtain ⟨b, off, rfl, hcell⟩ := hr hp
  refine ⟨b, off, rfl, fun j hj => ?_⟩
  have hlt : b < w.heap.size := World.block_lt_of_cell? w ⟨b, off + j, none⟩ (u := cs[j]) (by rw [hcell j hj]; simp [hj])
  rw [hb.cell (p := ⟨b, off + j, none⟩) hlt]
  exact hcell j hj

theorem Sl.quiet {w : World} {v : Value} {cs : List Value} (h : Sl w v cs) (n : Nat) : Sl (w.drewN n) v cs := h

/-- the beginning of a slice -/
theorem Sl.front {w : World} {ao : Option Addr} {n cap : Nat} {cs : List Value} (h : Sl w (.slice ao n cap) cs) (k : Nat) (hk : k ≤ cs.length) : Sl w (.slice ao k cap) (cs.take k) := by
  obtain ⟨ao', cap', he, hc, hn, hr⟩ := h
  simp only [Value.slice.injEq] at he
  obtain ⟨rfl, _, rfl⟩ := he
  have hl : (cs.take k).length = k := by simp; omega
  refine ⟨ao, cap, by rw [hl], by rw [hl]; omega, hn, fun hp => ?_⟩
  rw [hl] at hp
  obtain ⟨b, off, rfl, hcell⟩ := hr (by omega)
  refine ⟨b, off, rfl, fun j hj => ?_⟩
  rw [hl] at hj
  rw [hcell j (by omega), List.getElem?_take, if_pos hj]

/-- an element of a slice of bytes -/
theorem Sl.byteAt {w : World} {ao : Option Addr} {n : Nat} {xs : List Int}
    (h : 0 < n → ∃ b off, ao = some ⟨b, off, none⟩ ∧ ∀ j, j < n → w.cell? ⟨b, off + j, none⟩ = (bs xs)[j]?) (hn : n = xs.length) {k : Nat} (hk : k < n) :
    ∃ b off c, ao = some ⟨b, off, none⟩ ∧ xs[k]? = some c ∧ w.cell? ⟨b, off + k, none⟩ = some (.int .u8 c) := by
  obtain ⟨b, off, rfl, hc⟩ := h (by omega)
  refine ⟨b, off, xs[k]'(by omega), rfl, by simp, ?_⟩
  rw [hc k hk, bs_get]
  simp [show k < xs.length by omega]

theorem Own.sl {w : World} {lo hi : Nat} {e : TypeId} {v : Value} {cs : List Value} (h : Own w lo hi e v cs) : Sl w v cs := by
  obtain ⟨⟨h1, h2⟩, _⟩ := h
  rcases h2 with ⟨rfl, h0⟩ | ⟨g, cap, cur, rfl, hb, hg, hnc, hcm, hcs, ht⟩
  · have : cs = [] := List.eq_nil_of_length_eq_zero h0
    subst this
    exact Sl.nil w
  · refine ⟨some ⟨g, 0, none⟩, cap, rfl, hnc, fun h => by simp at h, fun _ => ⟨g, 0, rfl, fun j hj => ?_⟩⟩
    rw [Nat.zero_add, cell_of_row w g j cur e (0, 0) hg]
    have : cs[j]? = (cur.toList.take (cs.length * 1))[j]? := by rw [ht]
    rw [this, List.getElem?_take, if_pos (by omega)]
    simp

theorem Own.keep {w w' : World} {lo hi : Nat} {e : TypeId} {v : Value} {cs : List Value} (h : Own w lo hi e v cs) (hk : ∀ k, lo ≤ k → k < hi → w'.heap[k]? = w.heap[k]?) : Own w' lo hi e v cs := by
  obtain ⟨⟨h1, h2⟩, h3⟩ := h
  refine ⟨⟨h1, ?_⟩, h3⟩
  rcases h2 with h2 | ⟨g, cap, cur, rfl, hb, hg, r⟩
  · exact .inl h2
  · exact .inr ⟨g, cap, cur, rfl, hb, by rw [hk g hb (h3 g rfl)]; exact hg, r⟩

theorem Own.later {w w' : World} {lo hi B : Nat} {e : TypeId} {v : Value} {cs : List Value} (h : Own w lo hi e v cs) (hb : Below B w w') (hB : hi ≤ B) : Own w' lo hi e v cs :=
  h.keep fun k _ hk => hb.block k (by omega)
theorem Own.apart {w w' : World} {lo hi l2 h2 : Nat} {e : TypeId} {v : Value} {cs : List Value} (h : Own w lo hi e v cs) (hb : Apart l2 h2 w w') (hd : hi ≤ l2 ∨ h2 ≤ lo) (hs : hi ≤ w.heap.size) : Own w' lo hi e v cs :=
  h.keep fun k _ _ => hb.block k (by omega) (by omega)

theorem Own.mono {w : World} {lo hi lo' hi' : Nat} {e : TypeId} {v : Value} {cs : List Value} (h : Own w lo hi e v cs) (h1 : lo' ≤ lo) (h2 : hi ≤ hi') : Own w lo' hi' e v cs := by
  obtain ⟨⟨ha, hb⟩, hc⟩ := h
  refine ⟨⟨ha, ?_⟩, fun g hg => Nat.lt_of_lt_of_le (hc g hg) h2⟩
  rcases hb with hb | ⟨g, cap, cur, rfl, hb, r⟩
  · exact .inl hb
  · exact .inr ⟨g, cap, cur, rfl, Nat.le_trans h1 hb, r⟩
theorem Own.of {w : World} {lo : Nat} {e : TypeId} {v : Value} {n : Nat} {cs : List Value} (h : w.ownsRow lo e 1 v n cs) : Own w lo w.heap.size e v cs := by
  have hn : n = cs.length := by have := h.1; omega
  subst hn
  exact ⟨h, fun g hg => (h.lt g hg).2⟩
theorem Own.quiet {w : World} {lo hi : Nat} {e : TypeId} {v : Value} {cs : List Value} (h : Own w lo hi e v cs) (n : Nat) : Own (w.drewN n) lo hi e v cs := h
theorem Own.len {w : World} {lo hi : Nat} {e : TypeId} {v : Value} {cs : List Value} (h : Own w lo hi e v cs) : ∃ ao cap, v = .slice ao cs.length cap := by
  obtain ⟨ao, cap, rfl, _⟩ := h.sl
  exact ⟨ao, cap, rfl⟩

/-- a new block beside it -/
theorem Own.alloc {w : World} {lo : Nat} {e : TypeId} {v : Value} {cs : List Value} (h : Own w lo w.heap.size e v cs) (o : Obj) : Own (w.alloc o) lo (w.alloc o).heap.size e v cs :=
  Own.of (h.1.alloc o)

end Go.Proofs.YtbopliahafkecaaGreatDoor.Mem
