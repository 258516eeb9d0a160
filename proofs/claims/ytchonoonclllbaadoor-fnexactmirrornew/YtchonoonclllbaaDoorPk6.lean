/- Texts in one: Ter, Plain, Plain2, Puts. -/
import Derived.Test.YtchonoonclllbaaDoorPk5
import Derived.Test.YtchonoonclllbaaDoorPk4
import Derived.Test.YtchonoonclllbaaDoorPk1
import Derived.Test.YtchonoonclllbaaDoorPk3
import Derived.Test.YtchonoonclllbaaDoorPk2
import Derived.Deep.RegionHeld3
import Derived.Deep.MidRow
import Derived.WalkKit
import Derived.Laws.CopyOwn
namespace Go.Proofs.YtchonoonclllbaaDoor.Mem
open Go.RowKit
set_option linter.unusedVariables false
set_option linter.unusedSimpArgs false
theorem Ke.h {p : Prop} (h : p) : Hid p := h
theorem Ke.b {w W W' : World} (h : Hid (Below w.heap.size w W)) (b : Below W.heap.size W W') : Hid (Below w.heap.size w W') := h.out.trans (b.mono h.out.size)
theorem Ke.r {W W' : World} {g : Nat} {o : Obj} (h : Hid (W.heap[g]? = some o)) (b : Below W.heap.size W W') : Hid (W'.heap[g]? = some o) := rowKeep h.out b
theorem Ke.c {W : World} {g : Nat} {cs : Array Value} {t : TypeId} {fr : Nat × Nat} (h : Hid (W.heap[g]? = some (.cells cs t fr))) : ∀ j, W.cell? ⟨g, j, none⟩ = cs[j]? := fun j => row_at h.out j
theorem Ke.o {W W' : World} {lo hi : Nat} {e : TypeId} {v : Value} {cs : List Value} (h : Hid (Own W lo hi e v cs)) (b : Below W.heap.size W W') (hh : hi ≤ W.heap.size := by omega) : Hid (Own W' lo hi e v cs) := Own.later h.out b hh
theorem Ke.a {W : World} {g : Nat} {cs : Array Value} {t : TypeId} {fr : Nat × Nat} (h : Hid (W.heap[g]? = some (.cells cs t fr))) : ∀ o j, (W.alloc o).cell? ⟨g, j, none⟩ = cs[j]? :=
 fun o j => row_at (rowKeep h.out ((Below.refl _ _).alloc (Nat.le_refl _) o)) j
theorem Ke.a2 {W : World} {g : Nat} {cs : Array Value} {t : TypeId} {fr : Nat × Nat} (h : Hid (W.heap[g]? = some (.cells cs t fr))) : ∀ o p j, ((W.alloc o).alloc p).cell? ⟨g, j, none⟩ = cs[j]? :=
 fun o p j => row_at (rowKeep (rowKeep h.out ((Below.refl _ _).alloc (Nat.le_refl _) o)) ((Below.refl _ _).alloc (Nat.le_refl _) p)) j
theorem Ke.a3 {W : World} {g : Nat} {cs : Array Value} {t : TypeId} {fr : Nat × Nat} (h : Hid (W.heap[g]? = some (.cells cs t fr))) : ∀ o p q j, (((W.alloc o).alloc p).alloc q).cell? ⟨g, j, none⟩ = cs[j]? :=
 fun o p q j => row_at (rowKeep (rowKeep (rowKeep h.out ((Below.refl _ _).alloc (Nat.le_refl _) o)) ((Below.refl _ _).alloc (Nat.le_refl _) p)) ((Below.refl _ _).alloc (Nat.le_refl _) q)) j
theorem Ke.l1 (W : World) (c0 : Array Value) (t0 : TypeId) : ∃ X, Hid (W.alloc (.cells c0 t0) = X) ∧ Below W.heap.size W X ∧ W.heap.size + 1 ≤ X.heap.size ∧ Hid (X.heap.size = W.heap.size + 1) ∧ Hid (X.heap[W.heap.size]? = some (.cells c0 t0 (0, 0))) :=
 ⟨_, rfl, (Below.refl _ _).alloc (Nat.le_refl _) _, by simp, by show _ = _; simp, by show _ = _; exact alloc_nth1_0 W _⟩
theorem Ke.l2 (W : World) (c0 : Array Value) (t0 : TypeId) (c1 : Array Value) (t1 : TypeId) : ∃ X, Hid ((W.alloc (.cells c0 t0)).alloc (.cells c1 t1) = X) ∧ Below W.heap.size W X ∧ W.heap.size + 2 ≤ X.heap.size ∧ Hid (X.heap.size = W.heap.size + 1 + 1) ∧ Hid (X.heap[W.heap.size]? = some (.cells c0 t0 (0, 0))) ∧ Hid (X.heap[W.heap.size + 1]? = some (.cells c1 t1 (0, 0))) :=
 ⟨_, rfl, ((Below.refl _ _).alloc (Nat.le_refl _) _).alloc (by simp) _, by simp, by show _ = _; simp, by show _ = _; exact alloc_nth2_0 W _ _, by show _ = _; exact alloc_nth2_1 W _ _⟩
theorem Ke.s {W W' : World} {g x : Nat} {o : Obj} (h : Hid (W.heap[g]? = some o)) (gr : W.grownBy W' (some x)) (hn : ¬ x = g := by omega) : Hid (W'.heap[g]? = some o) := rowGro h.out gr (fun h9 => by injection h9 with h9; exact hn h9)
theorem Ke.t {W W' : World} {lo hi x : Nat} {e t : TypeId} {v : Value} {cs : List Value} {cx : Array Value} {fr : Nat × Nat} (h : Hid (Own W lo hi e v cs)) (r : Hid (W.heap[x]? = some (.cells cx t fr))) (gr : W.grownBy W' (some x)) (ht : t ≠ e := by decide) : Hid (Own W' lo hi e v cs) :=
 Own.gro h.out gr (fun k9 h9 e9 => Own.neRow h.out r.out ht (h9.trans e9.symm))
theorem Ke.n {W W' : World} {g lo hi : Nat} {e t : TypeId} {v : Value} {cs : List Value} {cx : Array Value} {fr : Nat × Nat} (h : Hid (W.heap[g]? = some (.cells cx t fr))) (o : Hid (Own W lo hi e v cs)) (gr : W.grownBy W' v.ownBlock) (ht : t ≠ e := by decide) : Hid (W'.heap[g]? = some (.cells cx t fr)) :=
 rowGro h.out gr (Own.neRow o.out h.out ht)
theorem Ke.k {W W' : World} {g : Nat} {cs : Array Value} (h : ∀ j, W.cell? ⟨g, j, none⟩ = cs[j]?) (b : Below W.heap.size W W') (hn : ∃ x, cs[0]? = some x := by exact ⟨_, rfl⟩) : ∀ j, W'.cell? ⟨g, j, none⟩ = cs[j]? := by
 intro j
 obtain ⟨x, hx⟩ := hn
 have hl := World.block_lt_of_cell? W ⟨g, 0, none⟩ ((h 0).trans hx)
 rw [b.cell (p := ⟨g, j, none⟩) hl]
 exact h j
theorem Ke.g {W W' : World} {g : Nat} {cs : Array Value} {r : Option Nat} (h : ∀ j, W.cell? ⟨g, j, none⟩ = cs[j]?) (gr : W.grownBy W' r) (hne : r ≠ some g) (hn : ∃ x, cs[0]? = some x := by exact ⟨_, rfl⟩) : ∀ j, W'.cell? ⟨g, j, none⟩ = cs[j]? := by
 intro j
 obtain ⟨x, hx⟩ := hn
 have hl := World.block_lt_of_cell? W ⟨g, 0, none⟩ ((h 0).trans hx)
 have e := gr.block g hl (fun e => hne e.symm)
 have e2 : W'.cell? ⟨g, j, none⟩ = W.cell? ⟨g, j, none⟩ := by simp [World.cell?, e]
 rw [e2]
 exact h j
theorem Ke.w {W : World} {g x : Nat} {cs form : Array Value} (hg : g ≠ x) (h : ∀ j, W.cell? ⟨g, j, none⟩ = cs[j]?) : ∀ j, (W.setRow x form).cell? ⟨g, j, none⟩ = cs[j]? := by
 intro j
 have e := setRow_other W x g form hg
 have e2 : (W.setRow x form).cell? ⟨g, j, none⟩ = W.cell? ⟨g, j, none⟩ := by simp [World.cell?, e]
 rw [e2]
 exact h j
section
variable {P : Program} {ops : Array Oper} {Q : Exit → Act → World → Prop} {md : Region.Mode} {S : World → Prop}
theorem Ke.y (i : Nat) {oi : Oper} {v : Value} {fuel : Nat} {listed : Array Bool} {a : Act} {w : World} (hi : ops[i]? = some oi)
  (hQ : ∀ c a w, Q (.panic c) (a.put oi.dst v) w → Q (.panic c) a w)
  (h : wpAnyH P md ops Q S fuel (listed.setIfInBounds i true) (a.put oi.dst v) w)
  (hs : Region.noSelect ops = true := by kernel_rfl) (hf : Region.free md ops listed i = true := by kernel_rfl) (hr : (Region.ready md ops listed).contains i = true := by kernel_rfl)
  (hw : Region.wanted oi (yielded ops a.tmps) = true := by rfl)
  (hy : ∀ w, S w → (execOp a.eval oi).run P w = .ok (.value v) w := by (intro w hSw; (try dsimp only at hSw); go_split_ands; go_simp; (try with_reducible rfl)))
  (hS : S w := by assumption) : wpAnyH P md ops Q S (fuel + 1) listed a w :=
 wpAnyH_take hi hs hf hr hQ (Or.inl ⟨hw, hy⟩) hS h
theorem Ke.x (i : Nat) {oi : Oper} {fuel : Nat} {listed : Array Bool} {a : Act} {w : World} (hi : ops[i]? = some oi)
  (hQ : ∀ c a w, Q (.panic c) (a.put oi.dst undef) w → Q (.panic c) a w)
  (h : wpAnyH P md ops Q S fuel (listed.setIfInBounds i true) (a.put oi.dst undef) w)
  (hs : Region.noSelect ops = true := by kernel_rfl) (hf : Region.free md ops listed i = true := by kernel_rfl) (hr : (Region.ready md ops listed).contains i = true := by kernel_rfl)
  (hw : Region.wanted oi (yielded ops a.tmps) = false := by rfl)
  (hS : S w := by assumption) : wpAnyH P md ops Q S (fuel + 1) listed a w :=
 wpAnyH_take hi hs hf hr hQ (Or.inr ⟨hw, rfl⟩) hS h
theorem Ke.z (i : Nat) {o : Oper} {fuel : Nat} {listed : Array Bool} {a : Act} {w : World} (ho : ops[i]? = some o)
  (h : ∀ K' : Act → World → Prop, Shut (∀ a w, S w → (S w → wpAnyH P md ops Q S fuel (listed.setIfInBounds i true) a w) → K' a w) → if Region.wanted o (yielded ops a.tmps) = true then Oper.wp P o a w K' Q else K' (a.put o.dst undef) w)
  (hr : Region.ready md ops listed = [i] := by kernel_rfl) : wpAnyH P md ops Q S (fuel + 1) listed a w :=
 wpAnyH_ready hr (by simp) (AllReadyH.cons ho h AllReadyH.nil)
end
end Go.Proofs.YtchonoonclllbaaDoor.Mem
namespace Go.Proofs.YtchonoonclllbaaDoor.Plain
def clampN (n : Int) : Int := if n < 0 then 0 else if 1000000000 < n then 1000000000 else n
def encF : Nat → Nat → List Int
 | 0, n => [(n : Int)]
 | f + 1, n => if n < 128 then [(n : Int)] else ((n % 128 + 128 : Nat) : Int) :: encF f (n / 128)
def enc (n : Nat) : List Int := encF n n
def dec (k : Nat) (N W : Int) : List Int → Option (Int × Nat)
 | [] => none
 | c :: r => if k = 5 then none else if 128 ≤ c then dec (k + 1) (N + c % 128 * W) (W * 128) r
   else if 1000000000 < N + c % 128 * W ∨ (0 < k ∧ c % 128 = 0) then none else some (N + c % 128 * W, k + 1)
def getNum (xs : List Int) (at_ : Int) : Int × Int × Bool :=
 if 0 ≤ at_ ∧ at_ < xs.length then match dec 0 0 1 (xs.drop at_.toNat) with
  | some (n, k) => (n, at_ + k, true)
  | none => (0, 0, false)
 else (0, 0, false)
end Go.Proofs.YtchonoonclllbaaDoor.Plain
namespace Go.Proofs.YtchonoonclllbaaDoor.Plain
open Go.Proofs.YtchonoonclllbaaDoor.Mem
def u8s (xs : List Int) : List UInt8 := xs.map fun x => UInt8.ofNat x.toNat
def txt (xs : List Int) : ByteArray := ⟨(u8s xs).toArray⟩
theorem u8s_len (xs : List Int) : (u8s xs).length = xs.length := by simp [u8s]
theorem u8_back {x : Int} (h : 0 ≤ x ∧ x ≤ 255) : ((UInt8.ofNat x.toNat).toNat : Int) = x := by
 rw [UInt8.toNat_ofNat']
 omega
def getText (xs : List Int) (at_ : Int) : ByteArray × Int × Bool :=
 if (getNum xs at_).2.2 = true ∧ (getNum xs at_).1 ≤ xs.length - (getNum xs at_).2.1 then
  (txt ((xs.drop (getNum xs at_).2.1.toNat).take (getNum xs at_).1.toNat), (getNum xs at_).2.1 + (getNum xs at_).1, true)
 else (⟨#[]⟩, 0, false)
def rd (xs : List Int) : Nat → Int → Option (List ByteArray × Int)
 | 0, p => some ([], p)
 | n + 1, p => if (getText xs p).2.2 = true then (rd xs n (getText xs p).2.1).map fun r => ((getText xs p).1 :: r.1, r.2) else none
def getTexts (xs : List Int) (at_ : Int) : List ByteArray × Int × Bool :=
 if (getNum xs at_).2.2 = true ∧ (getNum xs at_).1 ≤ 200 then
  match rd xs (getNum xs at_).1.toNat (getNum xs at_).2.1 with
  | some (l, q) => (l, q, true)
  | none => ([], 0, false)
 else ([], 0, false)
end Go.Proofs.YtchonoonclllbaaDoor.Plain
namespace Go.Proofs.YtchonoonclllbaaDoor.Puts
open Go.RowKit Go.Proofs.YtchonoonclllbaaDoor.Mem Go.Proofs.YtchonoonclllbaaDoor.Plain Go.Proofs.YtchonoonclllbaaDoor.Laws Go.Proofs.YtchonoonclllbaaDoor.Bytes
set_option linter.unusedVariables false
def num (n : Int) : List Int := enc (clampN n).toNat
theorem one_byte (x : Int) : ∀ u ∈ [Value.int .u8 x], u.oneCell' = true := by
 intro u hu
 rw [List.mem_singleton] at hu
 rw [hu]
 rfl
def tx (s : ByteArray) : List Int := num (s.size : Int) ++ sb s
def txs : List ByteArray → List Int
 | [] => []
 | s :: r => tx s ++ txs r
end Go.Proofs.YtchonoonclllbaaDoor.Puts
