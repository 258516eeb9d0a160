/- Texts in one: Mem, Plain2. -/
import Derived.Test.YtfpaichdkddglabGreatDoorPk1
import Derived.WalkKit
import Derived.WalkSmall
import Derived.Deep.Draws
namespace Go.Proofs.YtfpaichdkddglabGreatDoor.Mem
open Go.RowKit
def Sl (w : World) (v : Value) (cs : List Value) : Prop :=
 ∃ (ao : Option Addr) (cap : Nat), v = .slice ao cs.length cap ∧ cs.length ≤ cap ∧ (ao = none → cap = 0) ∧
  (0 < cs.length → ∃ b off, ao = some ⟨b, off, none⟩ ∧ ∀ j, j < cs.length → w.cell? ⟨b, off + j, none⟩ = cs[j]?)
def Own (w : World) (lo hi : Nat) (e : TypeId) (v : Value) (cs : List Value) : Prop :=
 w.ownsRow lo e 1 v cs.length cs ∧ ∀ g, v.ownBlock = some g → g < hi
def bs (xs : List Int) : List Value := xs.map (Value.int .u8)
def Byt (xs : List Int) : Prop := ∀ x ∈ xs, 0 ≤ x ∧ x ≤ 255
theorem bs_len (xs : List Int) : (bs xs).length = xs.length := by simp [bs]
theorem bs_app (xs ys : List Int) : bs (xs ++ ys) = bs xs ++ bs ys := by simp [bs]
theorem bs_get (xs : List Int) (j : Nat) : (bs xs)[j]? = (xs[j]?).map (Value.int .u8) := by simp [bs]
theorem Byt.app {xs ys : List Int} (h : Byt xs) (k : Byt ys) : Byt (xs ++ ys) := by
 intro x hx
 rcases List.mem_append.1 hx with hx | hx
 ·
  exact h x hx
 ·
  exact k x hx
theorem Byt.at {xs : List Int} (h : Byt xs) {k : Nat} {c : Int} (hc : xs[k]? = some c) : 0 ≤ c ∧ c ≤ 255 := h c (List.mem_of_getElem? hc)
def ss (l : List ByteArray) : List Value := l.map Value.string
theorem ss_len (l : List ByteArray) : (ss l).length = l.length := by simp [ss]
theorem ss_app (l r : List ByteArray) : ss (l ++ r) = ss l ++ ss r := by simp [ss]
theorem ss_get (l : List ByteArray) (j : Nat) : (ss l)[j]? = (l[j]?).map Value.string := by simp [ss]
theorem ss_one (l : List ByteArray) : ∀ u ∈ ss l, u.oneCell' = true := by
 intro u hu
 obtain ⟨_, _, rfl⟩ := List.mem_map.1 hu
 rfl
theorem Sl.strAt {w : World} {ao : Option Addr} {n : Nat} {l : List ByteArray}
  (h : 0 < n → ∃ b off, ao = some ⟨b, off, none⟩ ∧ ∀ j, j < n → w.cell? ⟨b, off + j, none⟩ = (ss l)[j]?) (hn : n = l.length) {k : Nat} (hk : k < n) :
  ∃ b off s, ao = some ⟨b, off, none⟩ ∧ l[k]? = some s ∧ w.cell? ⟨b, off + k, none⟩ = some (.string s) := by
 obtain ⟨b, off, rfl, hc⟩ := h (by omega)
 refine ⟨b, off, l[k]'(by omega), rfl, by simp, ?_⟩
 rw [hc k hk, ss_get]
 simp [show k < l.length by omega]
structure Apart (lo hi : Nat) (w w' : World) : Prop where
 os : w'.os = w.os
 tape : w'.tape = w.tape
 output : w'.output = w.output
 size : w.heap.size ≤ w'.heap.size
 block : ∀ k, k < w.heap.size → ¬ (lo ≤ k ∧ k < hi) → w'.heap[k]? = w.heap[k]?
theorem Apart.refl (lo hi : Nat) (w : World) : Apart lo hi w w := ⟨rfl, rfl, rfl, Nat.le_refl _, fun _ _ _ => rfl⟩
theorem Apart.below {lo hi B : Nat} {w w' : World} (h : Apart lo hi w w') (hB : B ≤ lo) (hs : B ≤ w.heap.size) : Below B w w' :=
 ⟨h.os, h.tape, h.output, h.size, fun k hk => h.block k (by omega) (by omega)⟩
theorem Apart.setCell {lo hi : Nat} {a w : World} (h : Apart lo hi a w) {p : Addr} (h1 : lo ≤ p.block) (h2 : p.block < hi) (u : Value) : Apart lo hi a (w.setCell p u) :=
 ⟨h.os, h.tape, h.output, by simp [World.setCell, h.size], fun k hk1 hk => by
  rw [Below.heap_setCell _ _ _ _ (by omega)]; exact h.block k hk1 hk⟩
theorem Apart.on {lo hi : Nat} {a w w' : World} (h : Apart lo hi a w) (hb : Below a.heap.size w w') : Apart lo hi a w' :=
 ⟨hb.os.trans h.os, hb.tape.trans h.tape, hb.output.trans h.output, Nat.le_trans h.size hb.size, fun k hk1 hk => (hb.block k hk1).trans (h.block k hk1 hk)⟩
theorem Apart.trans {lo hi : Nat} {a b c : World} (h : Apart lo hi a b) (k : Apart lo hi b c) : Apart lo hi a c :=
 ⟨k.os.trans h.os, k.tape.trans h.tape, k.output.trans h.output, Nat.le_trans h.size k.size, fun i hi1 hi2 => (k.block i (Nat.lt_of_lt_of_le hi1 h.size) hi2).trans (h.block i hi1 hi2)⟩
theorem Apart.grow {lo hi : Nat} {a w w' : World} (h : Apart lo hi a w) (hb : Below w.heap.size w w') : Apart lo hi a w' :=
 ⟨hb.os.trans h.os, hb.tape.trans h.tape, hb.output.trans h.output, Nat.le_trans h.size hb.size, fun k hk1 hk => (hb.block k (Nat.lt_of_lt_of_le hk1 h.size)).trans (h.block k hk1 hk)⟩
theorem Sl.nil (w : World) : Sl w (.slice none 0 0) [] := ⟨none, 0, rfl, Nat.le_refl _, fun _ => rfl, fun h => by simp at h⟩
theorem Sl.later {w w' : World} {v : Value} {cs : List Value} (h : Sl w v cs) (hb : Below w.heap.size w w') : Sl w' v cs := by
 obtain ⟨ao, cap, rfl, hc, hn, hr⟩ := h
 refine ⟨ao, cap, rfl, hc, hn, fun hp => ?_⟩
 obtain ⟨b, off, rfl, hcell⟩ := hr hp
 refine ⟨b, off, rfl, fun j hj => ?_⟩
 have hlt : b < w.heap.size := World.block_lt_of_cell? w ⟨b, off + j, none⟩ (u := cs[j]) (by rw [hcell j hj]; simp [hj])
 rw [hb.cell (p := ⟨b, off + j, none⟩) hlt]
 exact hcell j hj
theorem Sl.front {w : World} {ao : Option Addr} {n cap : Nat} {cs : List Value} (h : Sl w (.slice ao n cap) cs) (k : Nat) (hk : k ≤ cs.length) : Sl w (.slice ao k cap) (cs.take k) := by
 obtain ⟨ao', cap', he, hc, hn, hr⟩ := h
 simp only [Value.slice.injEq] at he
 obtain ⟨rfl, _, rfl⟩ := he
 have hl : (cs.take k).length = k := by simp; omega
 refine ⟨ao, cap, by rw [hl], by rw [hl]; omega, hn, fun hp => ?_⟩
 rw [hl] at hp
 obtain ⟨b, off, rfl, hcell⟩ := hr (by omega)
 refine ⟨b, off, rfl, fun j hj => ?_⟩
 rw [hl] at hj
 rw [hcell j (by omega), List.getElem?_take, if_pos hj]
theorem Sl.byteAt {w : World} {ao : Option Addr} {n : Nat} {xs : List Int}
  (h : 0 < n → ∃ b off, ao = some ⟨b, off, none⟩ ∧ ∀ j, j < n → w.cell? ⟨b, off + j, none⟩ = (bs xs)[j]?) (hn : n = xs.length) {k : Nat} (hk : k < n) :
  ∃ b off c, ao = some ⟨b, off, none⟩ ∧ xs[k]? = some c ∧ w.cell? ⟨b, off + k, none⟩ = some (.int .u8 c) := by
 obtain ⟨b, off, rfl, hc⟩ := h (by omega)
 refine ⟨b, off, xs[k]'(by omega), rfl, by simp, ?_⟩
 rw [hc k hk, bs_get]
 simp [show k < xs.length by omega]
theorem Own.sl {w : World} {lo hi : Nat} {e : TypeId} {v : Value} {cs : List Value} (h : Own w lo hi e v cs) : Sl w v cs := by
 obtain ⟨⟨h1, h2⟩, _⟩ := h
 rcases h2 with ⟨rfl, h0⟩ | ⟨g, cap, cur, rfl, hb, hg, hnc, hcm, hcs, ht⟩
 ·
  have : cs = [] := List.eq_nil_of_length_eq_zero h0
  subst this
  exact Sl.nil w
 ·
  refine ⟨some ⟨g, 0, none⟩, cap, rfl, hnc, fun h => by simp at h, fun _ => ⟨g, 0, rfl, fun j hj => ?_⟩⟩
  rw [Nat.zero_add, cell_of_row w g j cur e (0, 0) hg]
  have : cs[j]? = (cur.toList.take (cs.length * 1))[j]? := by rw [ht]
  rw [this, List.getElem?_take, if_pos (by omega)]
  simp
theorem Own.keep {w w' : World} {lo hi : Nat} {e : TypeId} {v : Value} {cs : List Value} (h : Own w lo hi e v cs) (hk : ∀ k, lo ≤ k → k < hi → w'.heap[k]? = w.heap[k]?) : Own w' lo hi e v cs := by
 obtain ⟨⟨h1, h2⟩, h3⟩ := h
 refine ⟨⟨h1, ?_⟩, h3⟩
 rcases h2 with h2 | ⟨g, cap, cur, rfl, hb, hg, r⟩
 ·
  exact .inl h2
 ·
  exact .inr ⟨g, cap, cur, rfl, hb, by rw [hk g hb (h3 g rfl)]; exact hg, r⟩
theorem Own.later {w w' : World} {lo hi B : Nat} {e : TypeId} {v : Value} {cs : List Value} (h : Own w lo hi e v cs) (hb : Below B w w') (hB : hi ≤ B) : Own w' lo hi e v cs :=
 h.keep fun k _ hk => hb.block k (by omega)
theorem Own.apart {w w' : World} {lo hi l2 h2 : Nat} {e : TypeId} {v : Value} {cs : List Value} (h : Own w lo hi e v cs) (hb : Apart l2 h2 w w') (hd : hi ≤ l2 ∨ h2 ≤ lo) (hs : hi ≤ w.heap.size) : Own w' lo hi e v cs :=
 h.keep fun k _ _ => hb.block k (by omega) (by omega)
theorem Own.mono {w : World} {lo hi lo' hi' : Nat} {e : TypeId} {v : Value} {cs : List Value} (h : Own w lo hi e v cs) (h1 : lo' ≤ lo) (h2 : hi ≤ hi') : Own w lo' hi' e v cs := by
 obtain ⟨⟨ha, hb⟩, hc⟩ := h
 refine ⟨⟨ha, ?_⟩, fun g hg => Nat.lt_of_lt_of_le (hc g hg) h2⟩
 rcases hb with hb | ⟨g, cap, cur, rfl, hb, r⟩
 ·
  exact .inl hb
 ·
  exact .inr ⟨g, cap, cur, rfl, Nat.le_trans h1 hb, r⟩
theorem Own.of {w : World} {lo : Nat} {e : TypeId} {v : Value} {n : Nat} {cs : List Value} (h : w.ownsRow lo e 1 v n cs) : Own w lo w.heap.size e v cs := by
 have hn : n = cs.length := by have := h.1; omega
 subst hn
 exact ⟨h, fun g hg => (h.lt g hg).2⟩
theorem Own.len {w : World} {lo hi : Nat} {e : TypeId} {v : Value} {cs : List Value} (h : Own w lo hi e v cs) : ∃ ao cap, v = .slice ao cs.length cap := by
 obtain ⟨ao, cap, rfl, _⟩ := h.sl
 exact ⟨ao, cap, rfl⟩
theorem Own.alloc {w : World} {lo : Nat} {e : TypeId} {v : Value} {cs : List Value} (h : Own w lo w.heap.size e v cs) (o : Obj) : Own (w.alloc o) lo (w.alloc o).heap.size e v cs :=
 Own.of (h.1.alloc o)
end Go.Proofs.YtfpaichdkddglabGreatDoor.Mem
namespace Go.Proofs.YtfpaichdkddglabGreatDoor.Plain
open Go.Proofs.YtfpaichdkddglabGreatDoor.Mem
theorem dec_bd (l : List Int) : ∀ (k : Nat) (N W : Int) (n : Int) (j : Nat), 0 ≤ N → 0 ≤ W → dec k N W l = some (n, j) → 0 ≤ n ∧ n ≤ 1000000000 ∧ k < j ∧ j ≤ k + l.length := by
 induction l with
 | nil => intro k N W n j _ _ h; simp [dec] at h
 | cons c r ih =>
  intro k N W n j hN hW h
  have hp : 0 ≤ c % 128 * W := Int.mul_nonneg (by omega) hW
  rw [dec] at h
  split at h
  ·
   simp at h
  ·
   split at h
   ·
    have := ih (k + 1) _ _ n j (by omega) (by omega) h
    simp only [List.length_cons]
    omega
   ·
    split at h
    ·
     simp at h
    ·
     simp only [Option.some.injEq, Prod.mk.injEq] at h
     obtain ⟨rfl, rfl⟩ := h
     simp only [List.length_cons]
     omega
theorem getNum_bd {xs : List Int} {at_ n p : Int} (h : getNum xs at_ = (n, p, true)) : 0 ≤ n ∧ n ≤ 1000000000 ∧ 0 < p ∧ p ≤ xs.length ∧ 0 ≤ at_ ∧ at_ < p := by
 unfold getNum at h
 split at h
 ·
  rename_i hr
  split at h
  ·
   rename_i n' k hd
   simp only [Prod.mk.injEq, and_true] at h
   obtain ⟨rfl, rfl⟩ := h
   have := dec_bd _ 0 0 1 _ _ (by omega) (by omega) hd
   have hl : (xs.drop at_.toNat).length = xs.length - at_.toNat := List.length_drop
   omega
  ·
   simp at h
 ·
  simp at h
def u8s (xs : List Int) : List UInt8 := xs.map fun x => UInt8.ofNat x.toNat
def txt (xs : List Int) : ByteArray := ⟨(u8s xs).toArray⟩
theorem u8s_len (xs : List Int) : (u8s xs).length = xs.length := by simp [u8s]
theorem u8_back {x : Int} (h : 0 ≤ x ∧ x ≤ 255) : ((UInt8.ofNat x.toNat).toNat : Int) = x := by
 rw [UInt8.toNat_ofNat']
 omega
def getText (xs : List Int) (at_ : Int) : ByteArray × Int × Bool :=
 if (getNum xs at_).2.2 = true ∧ (getNum xs at_).1 ≤ xs.length - (getNum xs at_).2.1 then
  (txt ((xs.drop (getNum xs at_).2.1.toNat).take (getNum xs at_).1.toNat), (getNum xs at_).2.1 + (getNum xs at_).1, true)
 else (⟨#[]⟩, 0, false)
theorem getText_no {xs : List Int} {at_ n p : Int} {ok : Bool} (h : getNum xs at_ = (n, p, ok)) (hb : ok = false ∨ (xs.length : Int) - p < n) : getText xs at_ = (⟨#[]⟩, 0, false) := by
 unfold getText
 rw [h, if_neg]
 rintro ⟨h1, h2⟩
 simp only at h1 h2
 rcases hb with hb | hb
 ·
  rw [hb] at h1; simp at h1
 ·
  omega
theorem getText_yes {xs : List Int} {at_ : Int} {n p : Nat} (h : getNum xs at_ = ((n : Int), (p : Int), true)) (hb : (n : Int) ≤ xs.length - (p : Int)) : getText xs at_ = (txt ((xs.drop p).take n), (p : Int) + (n : Int), true) := by
 unfold getText
 rw [h, if_pos ⟨rfl, hb⟩]
 rfl
theorem getText_bd {xs : List Int} {at_ p : Int} {s : ByteArray} (h : getText xs at_ = (s, p, true)) : 0 < p ∧ p ≤ xs.length ∧ s.size ≤ xs.length ∧ 0 ≤ at_ ∧ at_ < p := by
 unfold getText at h
 split at h
 ·
  rename_i hc
  obtain ⟨n, q, ok, hg⟩ : ∃ n q ok, getNum xs at_ = (n, q, ok) := ⟨_, _, _, rfl⟩
  rw [hg] at h hc
  simp only at h hc
  obtain ⟨rfl, hc2⟩ := hc
  have hb := getNum_bd hg
  simp only [Prod.mk.injEq, and_true] at h
  obtain ⟨rfl, rfl⟩ := h
  refine ⟨by omega, by omega, ?_, by omega, by omega⟩
  show (txt _).data.size ≤ _
  simp [txt, u8s]
  omega
 ·
  simp at h
def rd (xs : List Int) : Nat → Int → Option (List ByteArray × Int)
 | 0, p => some ([], p)
 | n + 1, p => if (getText xs p).2.2 = true then (rd xs n (getText xs p).2.1).map fun r => ((getText xs p).1 :: r.1, r.2) else none
theorem rd_no {xs : List Int} {n : Nat} {p q : Int} {s : ByteArray} (h : getText xs p = (s, q, false)) : rd xs (n + 1) p = none := by
 rw [rd, h]; rfl
theorem rd_yes {xs : List Int} {n : Nat} {p q : Int} {s : ByteArray} (h : getText xs p = (s, q, true)) : rd xs (n + 1) p = (rd xs n q).map fun r => (s :: r.1, r.2) := by
 rw [rd, h]; rfl
def getTexts (xs : List Int) (at_ : Int) : List ByteArray × Int × Bool :=
 if (getNum xs at_).2.2 = true ∧ (getNum xs at_).1 ≤ 200 then
  match rd xs (getNum xs at_).1.toNat (getNum xs at_).2.1 with
  | some (l, q) => (l, q, true)
  | none => ([], 0, false)
 else ([], 0, false)
theorem getTexts_no {xs : List Int} {at_ n p : Int} {ok : Bool} (h : getNum xs at_ = (n, p, ok)) (hb : ok = false ∨ 200 < n) : getTexts xs at_ = ([], 0, false) := by
 unfold getTexts
 rw [h, if_neg]
 rintro ⟨h1, h2⟩
 simp only at h1 h2
 rcases hb with hb | hb
 ·
  rw [hb] at h1; simp at h1
 ·
  omega
theorem getTexts_none {xs : List Int} {at_ p : Int} {n : Nat} (h : getNum xs at_ = ((n : Int), p, true)) (hn : n ≤ 200) (hr : rd xs n p = none) : getTexts xs at_ = ([], 0, false) := by
 unfold getTexts
 rw [h, if_pos ⟨rfl, by simp only; omega⟩]
 simp [hr]
theorem getTexts_some {xs : List Int} {at_ p q : Int} {n : Nat} {l : List ByteArray} (h : getNum xs at_ = ((n : Int), p, true)) (hn : n ≤ 200) (hr : rd xs n p = some (l, q)) : getTexts xs at_ = (l, q, true) := by
 unfold getTexts
 rw [h, if_pos ⟨rfl, by simp only; omega⟩]
 simp [hr]
theorem rd_len (xs : List Int) (n : Nat) : ∀ (p q : Int) (l : List ByteArray), rd xs n p = some (l, q) → l.length = n := by
 induction n with
 | zero => intro p q l h; simp [rd] at h; rw [h.1]; rfl
 | succ n ih =>
  intro p q l h
  rw [rd] at h
  split at h
  ·
   rw [Option.map_eq_some_iff] at h
   obtain ⟨⟨l2, q2⟩, h1, h2⟩ := h
   simp only [Prod.mk.injEq] at h2
   rw [← h2.1, List.length_cons, ih _ _ _ h1]
  ·
   simp at h
theorem getTexts_len (xs : List Int) (at_ : Int) : (getTexts xs at_).1.length ≤ 200 := by
 unfold getTexts
 split
 ·
  rename_i hc
  split
  ·
   rename_i l q hr
   have := rd_len xs _ _ _ _ hr
   simp only
   omega
  ·
   simp
 ·
  simp
end Go.Proofs.YtfpaichdkddglabGreatDoor.Plain
