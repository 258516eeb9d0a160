/- Texts in one: Ter, Plain, Plain2, Puts. -/
import Derived.Test.YtchonoonclllbabGreatDoorPa5
import Derived.Test.YtchonoonclllbabGreatDoorPa1
import Derived.Test.YtchonoonclllbabGreatDoorPa3
import Derived.Test.YtchonoonclllbabGreatDoorPa2
import Derived.Deep.RegionHeld3
import Derived.WalkKit
import Derived.Laws.CopyOwn
namespace Go.Proofs.YtchonoonclllbabGreatDoor.Mem
open Go.RowKit
set_option linter.unusedVariables false
set_option linter.unusedSimpArgs false
theorem Ke.h {p : Prop} (h : p) : Hid p := h
theorem Ke.b {w W W' : World} (h : Hid (Below w.heap.size w W)) (b : Below W.heap.size W W') : Hid (Below w.heap.size w W') := h.out.trans (b.mono h.out.size)
theorem Ke.r {W W' : World} {g : Nat} {o : Obj} (h : Hid (W.heap[g]? = some o)) (b : Below W.heap.size W W') : Hid (W'.heap[g]? = some o) := rowKeep h.out b
theorem Ke.c {W : World} {g : Nat} {cs : Array Value} {t : TypeId} {fr : Nat × Nat} (h : Hid (W.heap[g]? = some (.cells cs t fr))) : ∀ j, W.cell? ⟨g, j, none⟩ = cs[j]? := fun j => row_at h.out j
theorem Ke.o {W W' : World} {lo hi : Nat} {e : TypeId} {v : Value} {cs : List Value} (h : Hid (Own W lo hi e v cs)) (b : Below W.heap.size W W') (hh : hi ≤ W.heap.size := by omega) : Hid (Own W' lo hi e v cs) := Own.later h.out b hh
theorem Ke.a {W : World} {g : Nat} {cs : Array Value} {t : TypeId} {fr : Nat × Nat} (h : Hid (W.heap[g]? = some (.cells cs t fr))) : ∀ o j, (W.alloc o).cell? ⟨g, j, none⟩ = cs[j]? :=
 fun o j => row_at (rowKeep h.out ((Below.refl _ _).alloc (Nat.le_refl _) o)) j
theorem Ke.a2 {W : World} {g : Nat} {cs : Array Value} {t : TypeId} {fr : Nat × Nat} (h : Hid (W.heap[g]? = some (.cells cs t fr))) : ∀ o p j, ((W.alloc o).alloc p).cell? ⟨g, j, none⟩ = cs[j]? :=
 fun o p j => row_at (rowKeep (rowKeep h.out ((Below.refl _ _).alloc (Nat.le_refl _) o)) ((Below.refl _ _).alloc (Nat.le_refl _) p)) j
theorem Ke.a3 {W : World} {g : Nat} {cs : Array Value} {t : TypeId} {fr : Nat × Nat} (h : Hid (W.heap[g]? = some (.cells cs t fr))) : ∀ o p q j, (((W.alloc o).alloc p).alloc q).cell? ⟨g, j, none⟩ = cs[j]? :=
 fun o p q j => row_at (rowKeep (rowKeep (rowKeep h.out ((Below.refl _ _).alloc (Nat.le_refl _) o)) ((Below.refl _ _).alloc (Nat.le_refl _) p)) ((Below.refl _ _).alloc (Nat.le_refl _) q)) j
theorem Ke.l1 (W : World) (c0 : Array Value) (t0 : TypeId) : ∃ X, Hid (W.alloc (.cells c0 t0) = X) ∧ Below W.heap.size W X ∧ W.heap.size + 1 ≤ X.heap.size ∧ Hid (X.heap.size = W.heap.size + 1) ∧ Hid (X.heap[W.heap.size]? = some (.cells c0 t0 (0, 0))) :=
 ⟨_, rfl, (Below.refl _ _).alloc (Nat.le_refl _) _, by simp, by show _ = _; simp, by show _ = _; exact alloc_nth1_0 W _⟩
theorem Ke.l2 (W : World) (c0 : Array Value) (t0 : TypeId) (c1 : Array Value) (t1 : TypeId) : ∃ X, Hid ((W.alloc (.cells c0 t0)).alloc (.cells c1 t1) = X) ∧ Below W.heap.size W X ∧ W.heap.size + 2 ≤ X.heap.size ∧ Hid (X.heap.size = W.heap.size + 1 + 1) ∧ Hid (X.heap[W.heap.size]? = some (.cells c0 t0 (0, 0))) ∧ Hid (X.heap[W.heap.size + 1]? = some (.cells c1 t1 (0, 0))) :=
 ⟨_, rfl, ((Below.refl _ _).alloc (Nat.le_refl _) _).alloc (by simp) _, by simp, by show _ = _; simp, by show _ = _; exact alloc_nth2_0 W _ _, by show _ = _; exact alloc_nth2_1 W _ _⟩
theorem Ke.l3 (W : World) (c0 : Array Value) (t0 : TypeId) (c1 : Array Value) (t1 : TypeId) (c2 : Array Value) (t2 : TypeId) : ∃ X, Hid (((W.alloc (.cells c0 t0)).alloc (.cells c1 t1)).alloc (.cells c2 t2) = X) ∧ Below W.heap.size W X ∧ W.heap.size + 3 ≤ X.heap.size ∧ Hid (X.heap.size = W.heap.size + 1 + 1 + 1) ∧ Hid (X.heap[W.heap.size]? = some (.cells c0 t0 (0, 0))) ∧ Hid (X.heap[W.heap.size + 1]? = some (.cells c1 t1 (0, 0))) ∧ Hid (X.heap[W.heap.size + 1 + 1]? = some (.cells c2 t2 (0, 0))) :=
 ⟨_, rfl, (((Below.refl _ _).alloc (Nat.le_refl _) _).alloc (by simp) _).alloc (by simp; omega) _, by simp, by show _ = _; simp, by show _ = _; exact alloc_nth3_0 W _ _ _, by show _ = _; exact alloc_nth3_1 W _ _ _, by show _ = _; exact alloc_nth3_2 W _ _ _⟩
theorem Ke.s {W W' : World} {g x : Nat} {o : Obj} (h : Hid (W.heap[g]? = some o)) (gr : W.grownBy W' (some x)) (hn : ¬ x = g := by omega) : Hid (W'.heap[g]? = some o) := rowGro h.out gr (fun h9 => by injection h9 with h9; exact hn h9)
theorem Ke.t {W W' : World} {lo hi x : Nat} {e t : TypeId} {v : Value} {cs : List Value} {cx : Array Value} {fr : Nat × Nat} (h : Hid (Own W lo hi e v cs)) (r : Hid (W.heap[x]? = some (.cells cx t fr))) (gr : W.grownBy W' (some x)) (ht : t ≠ e := by decide) : Hid (Own W' lo hi e v cs) :=
 Own.gro h.out gr (fun k9 h9 e9 => Own.neRow h.out r.out ht (h9.trans e9.symm))
theorem Ke.n {W W' : World} {g lo hi : Nat} {e t : TypeId} {v : Value} {cs : List Value} {cx : Array Value} {fr : Nat × Nat} (h : Hid (W.heap[g]? = some (.cells cx t fr))) (o : Hid (Own W lo hi e v cs)) (gr : W.grownBy W' v.ownBlock) (ht : t ≠ e := by decide) : Hid (W'.heap[g]? = some (.cells cx t fr)) :=
 rowGro h.out gr (Own.neRow o.out h.out ht)
theorem Ke.k {W W' : World} {g : Nat} {cs : Array Value} (h : ∀ j, W.cell? ⟨g, j, none⟩ = cs[j]?) (b : Below W.heap.size W W') (hn : ∃ x, cs[0]? = some x := by exact ⟨_, rfl⟩) : ∀ j, W'.cell? ⟨g, j, none⟩ = cs[j]? := by
 intro j
 obtain ⟨x, hx⟩ := hn
 have hl := World.block_lt_of_cell? W ⟨g, 0, none⟩ ((h 0).trans hx)
 rw [b.cell (p := ⟨g, j, none⟩) hl]
 exact h j
theorem Ke.g {W W' : World} {g : Nat} {cs : Array Value} {r : Option Nat} (h : ∀ j, W.cell? ⟨g, j, none⟩ = cs[j]?) (gr : W.grownBy W' r) (hne : r ≠ some g) (hn : ∃ x, cs[0]? = some x := by exact ⟨_, rfl⟩) : ∀ j, W'.cell? ⟨g, j, none⟩ = cs[j]? := by
 intro j
 obtain ⟨x, hx⟩ := hn
 have hl := World.block_lt_of_cell? W ⟨g, 0, none⟩ ((h 0).trans hx)
 have e := gr.block g hl (fun e => hne e.symm)
 have e2 : W'.cell? ⟨g, j, none⟩ = W.cell? ⟨g, j, none⟩ := by simp [World.cell?, e]
 rw [e2]
 exact h j
theorem Ke.w {W : World} {g x : Nat} {cs form : Array Value} (hg : g ≠ x) (h : ∀ j, W.cell? ⟨g, j, none⟩ = cs[j]?) : ∀ j, (W.setRow x form).cell? ⟨g, j, none⟩ = cs[j]? := by
 intro j
 have e := setRow_other W x g form hg
 have e2 : (W.setRow x form).cell? ⟨g, j, none⟩ = W.cell? ⟨g, j, none⟩ := by simp [World.cell?, e]
 rw [e2]
 exact h j
section
variable {P : Program} {ops : Array Oper} {Q : Exit → Act → World → Prop} {md : Region.Mode} {S : World → Prop}
theorem Ke.y (i : Nat) {oi : Oper} {v : Value} {fuel : Nat} {listed : Array Bool} {a : Act} {w : World} (hi : ops[i]? = some oi)
  (hQ : ∀ c a w, Q (.panic c) (a.put oi.dst v) w → Q (.panic c) a w)
  (h : wpAnyH P md ops Q S fuel (listed.setIfInBounds i true) (a.put oi.dst v) w)
  (hs : Region.noSelect ops = true := by kernel_rfl) (hf : Region.free md ops listed i = true := by kernel_rfl) (hr : (Region.ready md ops listed).contains i = true := by kernel_rfl)
  (hw : Region.wanted oi (yielded ops a.tmps) = true := by rfl)
  (hy : ∀ w, S w → (execOp a.eval oi).run P w = .ok (.value v) w := by (intro w hSw; (try dsimp only at hSw); go_split_ands; go_simp; (try with_reducible rfl)))
  (hS : S w := by assumption) : wpAnyH P md ops Q S (fuel + 1) listed a w :=
 wpAnyH_take hi hs hf hr hQ (Or.inl ⟨hw, hy⟩) hS h
theorem Ke.x (i : Nat) {oi : Oper} {fuel : Nat} {listed : Array Bool} {a : Act} {w : World} (hi : ops[i]? = some oi)
  (hQ : ∀ c a w, Q (.panic c) (a.put oi.dst undef) w → Q (.panic c) a w)
  (h : wpAnyH P md ops Q S fuel (listed.setIfInBounds i true) (a.put oi.dst undef) w)
  (hs : Region.noSelect ops = true := by kernel_rfl) (hf : Region.free md ops listed i = true := by kernel_rfl) (hr : (Region.ready md ops listed).contains i = true := by kernel_rfl)
  (hw : Region.wanted oi (yielded ops a.tmps) = false := by rfl)
  (hS : S w := by assumption) : wpAnyH P md ops Q S (fuel + 1) listed a w :=
 wpAnyH_take hi hs hf hr hQ (Or.inr ⟨hw, rfl⟩) hS h
theorem Ke.z (i : Nat) {o : Oper} {fuel : Nat} {listed : Array Bool} {a : Act} {w : World} (ho : ops[i]? = some o)
  (h : ∀ K' : Act → World → Prop, Shut (∀ a w, S w → (S w → wpAnyH P md ops Q S fuel (listed.setIfInBounds i true) a w) → K' a w) → if Region.wanted o (yielded ops a.tmps) = true then Oper.wp P o a w K' Q else K' (a.put o.dst undef) w)
  (hr : Region.ready md ops listed = [i] := by kernel_rfl) : wpAnyH P md ops Q S (fuel + 1) listed a w :=
 wpAnyH_ready hr (by simp) (AllReadyH.cons ho h AllReadyH.nil)
end
theorem pu1 {α : Type _} (l : List α) (i : Nat) (a : α) : l.toArray.setIfInBounds i a = (l.set i a).toArray := List.setIfInBounds_toArray ..
theorem pu2 {α : Type _} {x a : α} {l : List α} : (x :: l).set 0 a = a :: l := List.set_cons_zero ..
theorem pu3 {α : Type _} {x a : α} {l : List α} {n : Nat} : (x :: l).set (n + 1) a = x :: l.set n a := List.set_cons_succ ..
theorem pu4 {α : Type _} {l : List α} {i : Nat} (h : i < l.toArray.size) : l.toArray[i] = l[i]'(by simpa using h) := List.getElem_toArray h
theorem pu5 {α : Type _} {x : α} {l : List α} (h : 0 < (x :: l).length) : (x :: l)[0] = x := rfl
theorem pu6 {α : Type _} {x : α} {l : List α} {i : Nat} (h : i + 1 < (x :: l).length) : (x :: l)[i + 1] = l[i]'(by simpa using h) := rfl
end Go.Proofs.YtchonoonclllbabGreatDoor.Mem
namespace Go.Proofs.YtchonoonclllbabGreatDoor.Plain
def clampN (n : Int) : Int := if n < 0 then 0 else if 1000000000 < n then 1000000000 else n
theorem clampN_bd (n : Int) : 0 ≤ clampN n ∧ clampN n ≤ 1000000000 := by unfold clampN; split <;> (try split) <;> omega
def encF : Nat → Nat → List Int
 | 0, n => [(n : Int)]
 | f + 1, n => if n < 128 then [(n : Int)] else ((n % 128 + 128 : Nat) : Int) :: encF f (n / 128)
def enc (n : Nat) : List Int := encF n n
theorem encF_any (f : Nat) : ∀ g n, n ≤ f → n ≤ g → encF f n = encF g n := by
 induction f with
 | zero =>
  intro g n h1 h2
  cases g with
  | zero => rfl
  | succ g => rw [encF, encF, if_pos (by omega)]
 | succ f ih =>
  intro g n h1 h2
  cases g with
  | zero => rw [encF, encF, if_pos (by omega)]
  | succ g =>
   rw [encF, encF]
   split
   ·
    rfl
   ·
    rw [ih g (n / 128) (by omega) (by omega)]
theorem enc_small {n : Nat} (h : n < 128) : enc n = [(n : Int)] := by
 unfold enc
 cases n with
 | zero => rfl
 | succ m => rw [encF, if_pos h]
theorem enc_step {n : Nat} (h : ¬ n < 128) : enc n = ((n % 128 + 128 : Nat) : Int) :: enc (n / 128) := by
 unfold enc
 obtain ⟨m, rfl⟩ : ∃ m, n = m + 1 := ⟨n - 1, by omega⟩
 rw [encF, if_neg h, encF_any m ((m + 1) / 128) ((m + 1) / 128) (by omega) (by omega)]
theorem enc_byteF (f : Nat) : ∀ n, n ≤ f → ∀ x ∈ enc n, 0 ≤ x ∧ x ≤ 255 := by
 induction f with
 | zero => intro n hn; rw [enc_small (by omega)]; simp; omega
 | succ f ih =>
  intro n hn
  by_cases h : n < 128
  ·
   rw [enc_small h]; simp; omega
  ·
   rw [enc_step h]
   intro x hx
   rcases List.mem_cons.1 hx with rfl | hx
   ·
    omega
   ·
    exact ih (n / 128) (by omega) x hx
theorem enc_byte (n : Nat) : ∀ x ∈ enc n, 0 ≤ x ∧ x ≤ 255 := enc_byteF n n (Nat.le_refl _)
theorem enc_len (n : Nat) : 1 ≤ (enc n).length := by
 by_cases h : n < 128
 ·
  rw [enc_small h]; simp
 ·
  rw [enc_step h]; simp
theorem enc_len5 (n : Nat) (h : n ≤ 1000000000) : (enc n).length ≤ 5 := by
 have s1 : ∀ n, n < 128 → (enc n).length = 1 := fun n h => by rw [enc_small h]; rfl
 have up : ∀ m c : Nat, (∀ k, k < m → (enc k).length ≤ c) → ∀ k, k < m * 128 → (enc k).length ≤ c + 1 := by
  intro m c hc k hk
  by_cases h1 : k < 128
  ·
   rw [s1 k h1]; omega
  ·
   rw [enc_step h1]; have := hc (k / 128) (by omega); simp; omega
 have a1 : ∀ k, k < 128 → (enc k).length ≤ 1 := fun k hk => by rw [s1 k hk]; omega
 have a2 := up _ _ a1
 have a3 := up _ _ a2
 have a4 := up _ _ a3
 have a5 := up _ _ a4
 exact a5 n (by omega)
def dec (k : Nat) (N W : Int) : List Int → Option (Int × Nat)
 | [] => none
 | c :: r => if k = 5 then none else if 128 ≤ c then dec (k + 1) (N + c % 128 * W) (W * 128) r
   else if 1000000000 < N + c % 128 * W ∨ (0 < k ∧ c % 128 = 0) then none else some (N + c % 128 * W, k + 1)
def getNum (xs : List Int) (at_ : Int) : Int × Int × Bool :=
 if 0 ≤ at_ ∧ at_ < xs.length then match dec 0 0 1 (xs.drop at_.toNat) with
  | some (n, k) => (n, at_ + k, true)
  | none => (0, 0, false)
 else (0, 0, false)
theorem wraps_i64 (n : Int) (h0 : 0 ≤ n) (h1 : n < 2 ^ 62) : IntKind.i64.wrap n = n := by rw [IntKind.wrap_i64]; omega
theorem and127 {n : Int} (h0 : 0 ≤ n) (h1 : n ≤ 1000000000) : bits .and .i64 n 127 = n % 128 := bits_mask .i64 62 (by decide) wraps_i64 7 (by decide) n h0 (by omega)
theorem or128 {n : Int} (h0 : 0 ≤ n) (h1 : n < 128) : bits .or .i64 n 128 = n + 128 := by
 obtain ⟨a, rfl⟩ := Int.eq_ofNat_of_zero_le h0
 have ha : a < 2 ^ 7 := by omega
 have h := (bits_nat .i64 62 (by decide) wraps_i64 a 128 (by omega) (by decide)).2
 have h2 := Nat.two_pow_add_eq_or_of_lt ha 1
 have e : (128 : Int) = ((128 : Nat) : Int) := rfl
 rw [e, h, Nat.or_comm]
 have h3 : (128 : Nat) ||| a = 128 + a := by simpa using h2.symm
 rw [h3]; omega
theorem or_join {N c : Int} {k : Nat} (hk : k < 5) (h0 : 0 ≤ N) (h1 : N < 128 ^ k) (hc0 : 0 ≤ c) (hc1 : c < 128) : bits .or .i64 N (c * 2 ^ (7 * k)) = N + c * 128 ^ k := by
 obtain ⟨a, rfl⟩ := Int.eq_ofNat_of_zero_le h0
 obtain ⟨b, rfl⟩ := Int.eq_ofNat_of_zero_le hc0
 have e : (128 : Int) ^ k = 2 ^ (7 * k) := by rw [Int.pow_mul]; rfl
 have en : (128 : Nat) ^ k = 2 ^ (7 * k) := by rw [Nat.pow_mul]
 have hp : (2 : Nat) ^ (7 * k) ≤ 2 ^ 28 := Nat.pow_le_pow_right (by decide) (by omega)
 have ha : a < 2 ^ (7 * k) := by rw [e] at h1; exact_mod_cast h1
 have hb : b < 128 := by omega
 have hx : b * 2 ^ (7 * k) < 2 ^ 35 := by
  have h3 : b * 2 ^ (7 * k) ≤ 127 * 2 ^ 28 := Nat.mul_le_mul (by omega) hp
  omega
 have h := (bits_nat .i64 62 (by decide) wraps_i64 a (b * 2 ^ (7 * k)) (by omega) (by omega)).2
 have hcast : ((b : Int) * 2 ^ (7 * k)) = ((b * 2 ^ (7 * k) : Nat) : Int) := by push_cast; rfl
 rw [e]
 rw [hcast, h, Nat.or_comm, Nat.mul_comm b, ← Nat.two_pow_add_eq_or_of_lt ha b]
 push_cast; omega
end Go.Proofs.YtchonoonclllbabGreatDoor.Plain
namespace Go.Proofs.YtchonoonclllbabGreatDoor.Plain
open Go.Proofs.YtchonoonclllbabGreatDoor.Mem
theorem dec_bd (l : List Int) : ∀ (k : Nat) (N W : Int) (n : Int) (j : Nat), 0 ≤ N → 0 ≤ W → dec k N W l = some (n, j) → 0 ≤ n ∧ n ≤ 1000000000 ∧ k < j ∧ j ≤ k + l.length := by
 induction l with
 | nil => intro k N W n j _ _ h; simp [dec] at h
 | cons c r ih =>
  intro k N W n j hN hW h
  have hp : 0 ≤ c % 128 * W := Int.mul_nonneg (by omega) hW
  rw [dec] at h
  split at h
  ·
   simp at h
  ·
   split at h
   ·
    have := ih (k + 1) _ _ n j (by omega) (by omega) h
    simp only [List.length_cons]
    omega
   ·
    split at h
    ·
     simp at h
    ·
     simp only [Option.some.injEq, Prod.mk.injEq] at h
     obtain ⟨rfl, rfl⟩ := h
     simp only [List.length_cons]
     omega
theorem getNum_bd {xs : List Int} {at_ n p : Int} (h : getNum xs at_ = (n, p, true)) : 0 ≤ n ∧ n ≤ 1000000000 ∧ 0 < p ∧ p ≤ xs.length ∧ 0 ≤ at_ ∧ at_ < p := by
 unfold getNum at h
 split at h
 ·
  rename_i hr
  split at h
  ·
   rename_i n' k hd
   simp only [Prod.mk.injEq, and_true] at h
   obtain ⟨rfl, rfl⟩ := h
   have := dec_bd _ 0 0 1 _ _ (by omega) (by omega) hd
   have hl : (xs.drop at_.toNat).length = xs.length - at_.toNat := List.length_drop
   omega
  ·
   simp at h
 ·
  simp at h
def u8s (xs : List Int) : List UInt8 := xs.map fun x => UInt8.ofNat x.toNat
def txt (xs : List Int) : ByteArray := ⟨(u8s xs).toArray⟩
theorem u8s_len (xs : List Int) : (u8s xs).length = xs.length := by simp [u8s]
theorem u8_back {x : Int} (h : 0 ≤ x ∧ x ≤ 255) : ((UInt8.ofNat x.toNat).toNat : Int) = x := by
 rw [UInt8.toNat_ofNat']
 omega
def getText (xs : List Int) (at_ : Int) : ByteArray × Int × Bool :=
 if (getNum xs at_).2.2 = true ∧ (getNum xs at_).1 ≤ xs.length - (getNum xs at_).2.1 then
  (txt ((xs.drop (getNum xs at_).2.1.toNat).take (getNum xs at_).1.toNat), (getNum xs at_).2.1 + (getNum xs at_).1, true)
 else (⟨#[]⟩, 0, false)
theorem getText_no {xs : List Int} {at_ n p : Int} {ok : Bool} (h : getNum xs at_ = (n, p, ok)) (hb : ok = false ∨ (xs.length : Int) - p < n) : getText xs at_ = (⟨#[]⟩, 0, false) := by
 unfold getText
 rw [h, if_neg]
 rintro ⟨h1, h2⟩
 simp only at h1 h2
 rcases hb with hb | hb
 ·
  rw [hb] at h1; simp at h1
 ·
  omega
theorem getText_yes {xs : List Int} {at_ : Int} {n p : Nat} (h : getNum xs at_ = ((n : Int), (p : Int), true)) (hb : (n : Int) ≤ xs.length - (p : Int)) : getText xs at_ = (txt ((xs.drop p).take n), (p : Int) + (n : Int), true) := by
 unfold getText
 rw [h, if_pos ⟨rfl, hb⟩]
 rfl
theorem getText_bd {xs : List Int} {at_ p : Int} {s : ByteArray} (h : getText xs at_ = (s, p, true)) : 0 < p ∧ p ≤ xs.length ∧ s.size ≤ xs.length ∧ 0 ≤ at_ ∧ at_ < p := by
 unfold getText at h
 split at h
 ·
  rename_i hc
  obtain ⟨n, q, ok, hg⟩ : ∃ n q ok, getNum xs at_ = (n, q, ok) := ⟨_, _, _, rfl⟩
  rw [hg] at h hc
  simp only at h hc
  obtain ⟨rfl, hc2⟩ := hc
  have hb := getNum_bd hg
  simp only [Prod.mk.injEq, and_true] at h
  obtain ⟨rfl, rfl⟩ := h
  refine ⟨by omega, by omega, ?_, by omega, by omega⟩
  show (txt _).data.size ≤ _
  simp [txt, u8s]
  omega
 ·
  simp at h
def rd (xs : List Int) : Nat → Int → Option (List ByteArray × Int)
 | 0, p => some ([], p)
 | n + 1, p => if (getText xs p).2.2 = true then (rd xs n (getText xs p).2.1).map fun r => ((getText xs p).1 :: r.1, r.2) else none
theorem rd_no {xs : List Int} {n : Nat} {p q : Int} {s : ByteArray} (h : getText xs p = (s, q, false)) : rd xs (n + 1) p = none := by
 rw [rd, h]; rfl
theorem rd_yes {xs : List Int} {n : Nat} {p q : Int} {s : ByteArray} (h : getText xs p = (s, q, true)) : rd xs (n + 1) p = (rd xs n q).map fun r => (s :: r.1, r.2) := by
 rw [rd, h]; rfl
def getTexts (xs : List Int) (at_ : Int) : List ByteArray × Int × Bool :=
 if (getNum xs at_).2.2 = true ∧ (getNum xs at_).1 ≤ 200 then
  match rd xs (getNum xs at_).1.toNat (getNum xs at_).2.1 with
  | some (l, q) => (l, q, true)
  | none => ([], 0, false)
 else ([], 0, false)
theorem getTexts_no {xs : List Int} {at_ n p : Int} {ok : Bool} (h : getNum xs at_ = (n, p, ok)) (hb : ok = false ∨ 200 < n) : getTexts xs at_ = ([], 0, false) := by
 unfold getTexts
 rw [h, if_neg]
 rintro ⟨h1, h2⟩
 simp only at h1 h2
 rcases hb with hb | hb
 ·
  rw [hb] at h1; simp at h1
 ·
  omega
theorem getTexts_none {xs : List Int} {at_ p : Int} {n : Nat} (h : getNum xs at_ = ((n : Int), p, true)) (hn : n ≤ 200) (hr : rd xs n p = none) : getTexts xs at_ = ([], 0, false) := by
 unfold getTexts
 rw [h, if_pos ⟨rfl, by simp only; omega⟩]
 simp [hr]
theorem getTexts_some {xs : List Int} {at_ p q : Int} {n : Nat} {l : List ByteArray} (h : getNum xs at_ = ((n : Int), p, true)) (hn : n ≤ 200) (hr : rd xs n p = some (l, q)) : getTexts xs at_ = (l, q, true) := by
 unfold getTexts
 rw [h, if_pos ⟨rfl, by simp only; omega⟩]
 simp [hr]
theorem rd_len (xs : List Int) (n : Nat) : ∀ (p q : Int) (l : List ByteArray), rd xs n p = some (l, q) → l.length = n := by
 induction n with
 | zero => intro p q l h; simp [rd] at h; rw [h.1]; rfl
 | succ n ih =>
  intro p q l h
  rw [rd] at h
  split at h
  ·
   rw [Option.map_eq_some_iff] at h
   obtain ⟨⟨l2, q2⟩, h1, h2⟩ := h
   simp only [Prod.mk.injEq] at h2
   rw [← h2.1, List.length_cons, ih _ _ _ h1]
  ·
   simp at h
theorem getTexts_len (xs : List Int) (at_ : Int) : (getTexts xs at_).1.length ≤ 200 := by
 unfold getTexts
 split
 ·
  rename_i hc
  split
  ·
   rename_i l q hr
   have := rd_len xs _ _ _ _ hr
   simp only
   omega
  ·
   simp
 ·
  simp
end Go.Proofs.YtchonoonclllbabGreatDoor.Plain
namespace Go.Proofs.YtchonoonclllbabGreatDoor.Puts
open Go.RowKit Go.Proofs.YtchonoonclllbabGreatDoor.Mem Go.Proofs.YtchonoonclllbabGreatDoor.Plain Go.Proofs.YtchonoonclllbabGreatDoor.Laws Go.Proofs.YtchonoonclllbabGreatDoor.Bytes
set_option linter.unusedVariables false
def num (n : Int) : List Int := enc (clampN n).toNat
theorem num_byt (n : Int) : Byt (num n) := enc_byte _
theorem num_len (n : Int) : 1 ≤ (num n).length ∧ (num n).length ≤ 5 := ⟨enc_len _, enc_len5 _ (by have := clampN_bd n; omega)⟩
theorem near_any (n : Int) (w : World) : Calls Tryz.prog 170 #[.int .i64 n] w fun e w' => e = .returned (.int .i64 (clampN n)) ∧ w = w' := by
 by_cases h0 : n < 0
 ·
  have HC : Hid (clampN n = 0) := by show clampN n = 0; unfold clampN; rw [if_pos h0]
  go_enter Tryz.func170, Tryz.ntmps170
  go_wp2
  go_ret
  exact ⟨by rw [HC.out]; rfl, rfl⟩
 ·
  by_cases h1 : 1000000000 < n
  ·
   have HC : Hid (clampN n = 1000000000) := by show clampN n = _; unfold clampN; rw [if_neg h0, if_pos h1]
   go_enter Tryz.func170, Tryz.ntmps170
   go_wp2
   go_ret
   exact ⟨by rw [HC.out]; rfl, rfl⟩
  ·
   have HC : Hid (clampN n = n) := by show clampN n = _; unfold clampN; rw [if_neg h0, if_neg h1]
   go_enter Tryz.func170, Tryz.ntmps170
   go_wp2
   go_ret
   exact ⟨by rw [HC.out]; rfl, rfl⟩
set_option maxHeartbeats 400000 in
theorem own_any (w : World) (v : Value) (xs : List Int) (h : Sl w v (bs xs)) (hx : xs.length ≤ 140737488355328) :
  Calls Tryz.prog 114 #[v] w fun e w' => ∃ v', e = .returned v' ∧ Own w' w.heap.size w'.heap.size 5 v' (bs xs) ∧ Below w.heap.size w w' := by
 obtain ⟨i0, hi, hz0, hz1, hz2⟩ := info_parts info5
 have hlater : ∀ w', Below w.heap.size w w' → Sl w' v (bs xs) := fun w' hb => h.later hb
 obtain ⟨ao, cap, rfl, hc, _, hr⟩ := h
 rw [bs_len] at hr hc hlater
 rw [bs_len]
 go_enter Tryz.func114, Tryz.ntmps114
 go_wp2_with (first | (at_make; refine wpList_make_full _ rfl _ _ 27 rfl w.heap.size 5 i0 (.int .u8 0) 1 Tryz.underlying27 hi hz0 hz1 _ _ _ _ xs.length rfl rfl rfl rfl (by rw [hz2]; omega) (by unfold maxLen; omega) (Nat.le_refl _) ?_))
 intro w1 hown hgrow
 have hbel : Below w.heap.size w w1 := (Below.refl _ _).grown hgrow (Nat.le_refl _) (by simp)
 obtain ⟨L, hown'⟩ : ∃ L, w1.ownsRow w.heap.size 5 1 (.slice (some ⟨w.heap.size, 0, none⟩) xs.length xs.length) xs.length L := ⟨_, hown⟩
 have hblk : w1.heap[w.heap.size]? = some (.cells L.toArray 5 (0, 0)) := full_block hown'
 have hLn : L.length = xs.length := by have := hown'.1; omega
 have HLn : Hid (L.length = xs.length) := hLn
 obtain ⟨C, hC⟩ : ∃ C, C = bs xs := ⟨_, rfl⟩
 have HC : Hid (C = bs xs ∧ C.length = xs.length) := ⟨hC, by rw [hC, bs_len]⟩
 have hsz : (Tryz.prog.info? 5).map (·.size) = some 1 := by rw [hi]; simp [hz1]
 obtain ⟨ao', cap', he, _, _, hr'⟩ := hlater w1 hbel
 rw [bs_len] at he hr'
 simp only [Value.slice.injEq] at he
 obtain ⟨rfl, _, rfl⟩ := he
 have HS : Hid (0 < C.length → ∃ ad, ao = some ad ∧ ∀ j u, C[j]? = some u → w1.cell? (ad.add j) = some u) := by
  intro hp
  rw [HC.out.2] at hp
  obtain ⟨b, off, rfl, hcell⟩ := hr' hp
  refine ⟨_, rfl, fun j u hj => ?_⟩
  rw [Addr.add_lit, hcell j (by have := (List.getElem?_eq_some_iff.1 hj).1; rw [HC.out.2] at this; exact this), ← HC.out.1]
  exact hj
 have HO : Hid (∀ u ∈ C, u.oneCell' = true) := by show ∀ u ∈ C, u.oneCell' = true; rw [hC]; exact bs_one _
 clear hown hown' hgrow hLn hC hr hr'
 go_wp2_with (refine wpList_copy_splice rfl (.tmp 7) (.tmp 8) 27 27 rfl 5 Tryz.underlying27 hsz _ _ _ _ _ _ rfl rfl w.heap.size 0 L 5 hblk C (HC.out.2.trans (Nat.min_self _).symm) (fun hp => ⟨rfl, HS.out hp⟩) (by rw [HC.out.2, HLn.out]; omega) HO.out w.heap.size w hbel (Nat.le_refl _) ?_)
 intro w2 hg2 hb2
 go_wp2
 go_ret
 have hfin := hg2.out
 rw [splice_all (by rw [HLn.out, HC.out.2])] at hfin
 refine ⟨_, rfl, ?_, hb2⟩
 rw [← HC.out.1]
 exact Own.of (full_own hfin (Nat.le_refl _) HC.out.2 (by unfold maxLen; omega))
theorem one_byte (x : Int) : ∀ u ∈ [Value.int .u8 x], u.oneCell' = true := by
 intro u hu
 rw [List.mem_singleton] at hu
 rw [hu]
 rfl
set_option maxRecDepth 1000000 in
set_option maxHeartbeats 1000000 in
theorem nums_one (w : World) (lo : Nat) (v : Value) (xs : List Int) (g : Nat) (n : Int) (h : Own w lo w.heap.size 5 v (bs xs)) (hlo : lo ≤ w.heap.size) (hx : xs.length ≤ 70368744177664)
  (hcell : w.cell? ⟨g, 0, none⟩ = some (.int .i64 n)) :
  Calls Tryz.prog 150 #[v, .slice (some ⟨g, 0, none⟩) 1 1] w fun e w' => ∃ v', e = .returned v' ∧ Own w' lo w'.heap.size 5 v' (bs (xs ++ num n)) ∧ Below lo w w' := by
 obtain ⟨i0, hi, hz0, hz1, hz2⟩ := info_parts info5
 go_enter Tryz.func150, Tryz.ntmps150
 go_wp2
 go_loopw [0, 9] (fun b i wr => (i = .int .i64 0 ∧ w = wr ∧ v = b) ∨ (i = .int .i64 1 ∧ Own wr lo wr.heap.size 5 b (bs (xs ++ num n)) ∧ Below lo w wr)) (fun _ i _ => 1 - (intOf i).toNat)
 case atStart => exact .inl ⟨rfl, rfl, rfl⟩
 case round =>
  rcases hrel with ⟨rfl, rfl, rfl⟩ | ⟨rfl, ho, hb⟩
  ·
   have hcb := clampN_bd n
   go_wp2_with (go_at_call 170; refine (near_any _ _).mono ?_; rintro e w' ⟨rfl, rfl⟩)
   obtain ⟨m0, hm0⟩ : ∃ m0 : Nat, clampN n = (m0 : Int) := ⟨(clampN n).toNat, by omega⟩
   have HM : Hid (num n = enc m0) := by show num n = enc m0; unfold num; rw [hm0]; rfl
   have hm0b : m0 ≤ 1000000000 := by omega
   have hnl := num_len n
   rw [hm0]
   clear hcb hcell hm0
   go_loopw [0, 6] (fun b nn wr => ∃ (m : Nat) (ys : List Int), m ≤ 1000000000 ∧ nn = .int .i64 m ∧ ys ++ enc m = xs ++ num n ∧ Own wr lo wr.heap.size 5 b (bs ys) ∧ Below lo w wr) (fun _ nn _ => (intOf nn).toNat)
   case atStart => exact ⟨m0, xs, hm0b, rfl, by rw [HM.out], h, Below.refl _ _⟩
   case round =>
    obtain ⟨m, ys, hm, rfl, hE0, ho, hb⟩ := hrel
    have HE : Hid (ys ++ enc m = xs ++ num n) := hE0
    have hyl : ys.length ≤ xs.length + 5 := by have := congrArg List.length hE0; simp at this; omega
    have hsz := hb.size
    clear hE0 HM
    by_cases hlt : 128 ≤ m
    ·
     have HS : Hid ((ys ++ [((m % 128 + 128 : Nat) : Int)]) ++ enc (m / 128) = xs ++ num n) := by
      show _ = _; rw [← HE.out, enc_step (show ¬ m < 128 by omega), List.append_assoc]; rfl
     have c2 : (bs ys).length + 1 ≤ maxLen := by rw [bs_len]; unfold maxLen; omega
     have c3 : ((bs ys).length + 1) * 1 ≤ 140737488355328 := by rw [bs_len]; omega
     have c4 : ∀ o, lo ≤ (wr.alloc o).heap.size := fun o => by simp; omega
     go_wp2_with (at_builtin; go_must (refine wpl_app _ rfl (.tmp 17) (.tmp 22) 27 rfl 5 i0 (.int .u8 0) 1 Tryz.underlying27 hi hz0 hz1 hz2 rfl lo _ (bs ys) rfl (ho.alloc _) _ rfl [.int .u8 ((m : Int) % 128 + 128)] (Sl.one _ _ _) (one_byte _) c2 c3 (c4 _) ?_); intro v1 w1 ho1 hb1 hg1)
     have hb2 : Below lo w w1 := (hb.alloc (by omega) _).trans hb1
     have ho2 : Own w1 lo w1.heap.size 5 v1 (bs (ys ++ [((m % 128 + 128 : Nat) : Int)])) := by rw [bs_app]; exact ho1
     go_roundw
     case rel => exact ⟨m / 128, ys ++ [((m % 128 + 128 : Nat) : Int)], by omega, by go_num, HS.out, ho2, hb2⟩
     case measure => simp [intOf]; omega
    ·
     have c2 : (bs ys).length + 1 ≤ maxLen := by rw [bs_len]; unfold maxLen; omega
     have c3 : ((bs ys).length + 1) * 1 ≤ 140737488355328 := by rw [bs_len]; omega
     have c4 : ∀ o, lo ≤ (wr.alloc o).heap.size := fun o => by simp; omega
     have HS : Hid (ys ++ [(m : Int)] = xs ++ num n) := by show _ = _; rw [← HE.out, enc_small (show m < 128 by omega)]
     go_wp2_with (at_builtin; go_must (refine wpl_app _ rfl (.tmp 26) (.tmp 29) 27 rfl 5 i0 (.int .u8 0) 1 Tryz.underlying27 hi hz0 hz1 hz2 rfl lo _ (bs ys) rfl (ho.alloc _) _ rfl [.int .u8 (m : Int)] (Sl.one _ _ _) (one_byte _) c2 c3 (c4 _) ?_); intro v1 w1 ho1 hb1 hg1)
     have hb2 : Below lo w w1 := (hb.alloc (by omega) _).trans hb1
     have ho2 : Own w1 lo w1.heap.size 5 v1 (bs (xs ++ num n)) := by rw [← HS.out, bs_app]; exact ho1
     go_roundw
     case rel => exact .inr ⟨rfl, ho2, hb2⟩
     case measure => simp [intOf]
  ·
   go_wp2
   go_ret
   exact ⟨_, rfl, ho, hb⟩
theorem new_cell (w : World) (u : Value) (t : TypeId) : (w.alloc (.cells #[u] t)).cell? ⟨w.heap.size, 0, none⟩ = some u := by
 rw [cell_of_row _ w.heap.size 0 #[u] t (0, 0) (heap_alloc_new w _)]
 rfl
set_option maxRecDepth 1000000 in
set_option maxHeartbeats 1000000 in
theorem put_impl (w : World) (v : Value) (xs : List Int) (n : Int) (h : Sl w v (bs xs)) (hx : xs.length ≤ 70368744177664) :
  Calls Tryz.prog 151 #[v, .int .i64 n] w fun e w' => ∃ v', e = .returned v' ∧ Own w' w.heap.size w'.heap.size 5 v' (bs (xs ++ num n)) ∧ Below w.heap.size w w' := by
 go_enter Tryz.func151, Tryz.ntmps151
 go_wp2_with fail
 refine (own_any w v xs h (by omega)).mono ?_
 rintro e w1 ⟨v1, rfl, ho1, hb1⟩
 have hsz := hb1.size
 go_wp2_with fail
 refine (nums_one _ w.heap.size v1 xs w1.heap.size n (ho1.alloc _) (by simp; omega) hx (new_cell _ _ _)).mono ?_
 rintro e w2 ⟨v2, rfl, ho2, hb2⟩
 go_wp2
 go_ret
 exact ⟨_, rfl, ho2, (hb1.alloc (by omega) _).trans hb2⟩
theorem Own.empty (w : World) (lo : Nat) (h : lo ≤ w.heap.size) : Own (w.alloc (.cells #[] 5)) lo (w.alloc (.cells #[] 5)).heap.size 5 (.slice (some ⟨w.heap.size, 0, none⟩) 0 0) (bs []) :=
 Own.of (World.ownsRow_lit w #[] 0 h (Nat.zero_le _) rfl)
set_option maxRecDepth 1000000 in
set_option maxHeartbeats 1000000 in
theorem put_spec (w : World) (v : Value) (xs : List Int) (n : Int) (h : Sl w v (bs xs)) (hx : xs.length ≤ 70368744177664) :
  Calls Tryz.prog 130 #[v, .int .i64 n] w fun e w' => ∃ v', e = .returned v' ∧ Own w' w.heap.size w'.heap.size 5 v' (bs (xs ++ num n)) ∧ Below w.heap.size w w' := by
 obtain ⟨i0, hi, hz0, hz1, hz2⟩ := info_parts info5
 have c2 : (bs []).length + (bs xs).length ≤ maxLen := by rw [bs_len, bs_len]; unfold maxLen; simp; omega
 have c3 : ((bs []).length + (bs xs).length) * 1 ≤ 140737488355328 := by rw [bs_len, bs_len]; simp; omega
 have c4 : ∀ o, w.heap.size ≤ (w.alloc o).heap.size := fun o => by simp
 have hs2 : ∀ o, Sl (w.alloc o) v (bs xs) := fun o => h.later ((Below.refl _ _).alloc (Nat.le_refl _) o)
 have HB : Hid (0 ≤ clampN n ∧ clampN n ≤ 1000000000) := clampN_bd n
 have hway : (decide (1000000000 < n) = true ∧ clampN n = 1000000000) ∨ (decide (1000000000 < n) = false ∧ decide (n < 0) = true ∧ clampN n = 0) ∨ (decide (1000000000 < n) = false ∧ decide (n < 0) = false ∧ clampN n = n) := by
  simp only [decide_eq_true_eq, decide_eq_false_iff_not]
  unfold clampN; (split <;> (try split)) <;> omega
 rcases hway with ⟨hd1, hcl⟩ | ⟨hd1, hd2, hcl⟩ | ⟨hd1, hd2, hcl⟩
 all_goals
  have HC : Hid (clampN n = _) := hcl
  clear hcl
  go_enter Tryz.func130, Tryz.ntmps130
  go_wp2_with (at_builtin; go_must (refine wpl_app _ rfl (.tmp 6) (.tmp 7) 27 rfl 5 i0 (.int .u8 0) 1 Tryz.underlying27 hi hz0 hz1 hz2 rfl w.heap.size _ (bs []) rfl (Own.empty w _ (Nat.le_refl _)) _ rfl (bs xs) (hs2 _) (bs_one _) c2 c3 (c4 _) ?_))
  intro v1 w1 ho1 hb1 hg1
  have hb2 : Below w.heap.size w w1 := ((Below.refl _ _).alloc (Nat.le_refl _) _).trans hb1
  rw [← bs_app, List.nil_append] at ho1
  clear hg1 hb1 c2 c3 c4 hs2
  go_wp2
  go_loopw [1, 5] (fun nn b wr => ∃ (m : Nat) (ys : List Int), m ≤ 1000000000 ∧ nn = .int .i64 m ∧ ys ++ enc m = xs ++ num n ∧ Own wr w.heap.size wr.heap.size 5 b (bs ys) ∧ Below w.heap.size w wr) (fun nn _ _ => (intOf nn).toNat)
  case atStart =>
   have hcb := HB.out
   have hcl := HC.out
   exact ⟨(clampN n).toNat, xs, by omega, congrArg (Value.int .i64) (by omega), rfl, ho1, hb2⟩
  case round =>
   obtain ⟨m, ys, hm, rfl, hE0, ho, hb⟩ := hrel
   have HE : Hid (ys ++ enc m = xs ++ num n) := hE0
   have hyl : ys.length ≤ xs.length + 5 := by have := congrArg List.length hE0; have := (num_len n).2; simp at *; omega
   have hsz := hb.size
   have c2 : (bs ys).length + 1 ≤ maxLen := by rw [bs_len]; unfold maxLen; omega
   have c3 : ((bs ys).length + 1) * 1 ≤ 140737488355328 := by rw [bs_len]; omega
   have c4 : ∀ o, w.heap.size ≤ (wr.alloc o).heap.size := fun o => by simp; omega
   clear hE0
   by_cases hlt : 127 < m
   ·
    have HS : Hid ((ys ++ [((m % 128 + 128 : Nat) : Int)]) ++ enc (m / 128) = xs ++ num n) := by
     show _ = _; rw [← HE.out, enc_step (show ¬ m < 128 by omega), List.append_assoc]; rfl
    have hmask := and127 (n := (m : Int)) (by omega) (by omega)
    have hor := or128 (n := (m : Int) % 128) (by omega) (by omega)
    go_wp2_with (at_builtin; go_must (refine wpl_app _ rfl (.tmp 15) (.tmp 20) 27 rfl 5 i0 (.int .u8 0) 1 Tryz.underlying27 hi hz0 hz1 hz2 rfl w.heap.size _ (bs ys) rfl (ho.alloc _) _ rfl [.int .u8 ((m : Int) % 128 + 128)] (Sl.one _ _ _) (one_byte _) c2 c3 (c4 _) ?_); intro v3 w3 ho3 hb3 hg3)
    have hb4 : Below w.heap.size w w3 := (hb.alloc (by omega) _).trans hb3
    have ho4 : Own w3 w.heap.size w3.heap.size 5 v3 (bs (ys ++ [((m % 128 + 128 : Nat) : Int)])) := by rw [bs_app]; exact ho3
    go_roundw
    case rel => exact ⟨m / 128, ys ++ [((m % 128 + 128 : Nat) : Int)], by omega, by go_num, HS.out, ho4, hb4⟩
    case measure => simp [intOf]; omega
   ·
    have HS : Hid (ys ++ [(m : Int)] = xs ++ num n) := by show _ = _; rw [← HE.out, enc_small (show m < 128 by omega)]
    go_wp2_with (at_builtin; go_must (refine wpl_app _ rfl (.tmp 24) (.tmp 27) 27 rfl 5 i0 (.int .u8 0) 1 Tryz.underlying27 hi hz0 hz1 hz2 rfl w.heap.size _ (bs ys) rfl (ho.alloc _) _ rfl [.int .u8 (m : Int)] (Sl.one _ _ _) (one_byte _) c2 c3 (c4 _) ?_); intro v3 w3 ho3 hb3 hg3)
    have hb4 : Below w.heap.size w w3 := (hb.alloc (by omega) _).trans hb3
    have ho4 : Own w3 w.heap.size w3.heap.size 5 v3 (bs (xs ++ num n)) := by rw [← HS.out, bs_app]; exact ho3
    go_ret
    exact ⟨_, rfl, ho4, hb4⟩
def tx (s : ByteArray) : List Int := num (s.size : Int) ++ sb s
def tot : List ByteArray → Nat
 | [] => 0
 | s :: r => s.size + tot r
def txs : List ByteArray → List Int
 | [] => []
 | s :: r => tx s ++ txs r
theorem tx_len (s : ByteArray) : (tx s).length ≤ s.size + 5 := by
 unfold tx; have := num_len (s.size : Int); rw [List.length_append, sb_len]; omega
theorem txs_len (l : List ByteArray) : (txs l).length ≤ 5 * l.length + tot l := by
 induction l with
 | nil => simp [txs, tot]
 | cons s r ih => have := tx_len s; simp only [txs, tot, List.length_append, List.length_cons]; omega
theorem tx_byt (s : ByteArray) : Byt (tx s) := (num_byt _).app (sb_byt _)
set_option maxRecDepth 1000000 in
set_option maxHeartbeats 1000000 in
theorem putt_spec (w : World) (v : Value) (xs : List Int) (s : ByteArray) (h : Sl w v (bs xs)) (hx : xs.length ≤ 35184372088832) (hs : s.size ≤ 35184372088832) :
  Calls Tryz.prog 129 #[v, .string s] w fun e w' => ∃ v', e = .returned v' ∧ Own w' w.heap.size w'.heap.size 5 v' (bs (xs ++ tx s)) ∧ Below w.heap.size w w' := by
 obtain ⟨i0, hi, hz0, hz1, hz2⟩ := info_parts info5
 have hnl := num_len (s.size : Int)
 go_enter Tryz.func129, Tryz.ntmps129
 go_wp2_with fail
 refine (put_spec w v xs _ h (by omega)).mono ?_
 rintro e w1 ⟨v1, rfl, ho1, hb1⟩
 have hsz := hb1.size
 have c1 : (xs ++ num (s.size : Int)).length + s.size ≤ 140737488355328 := by rw [List.length_append]; omega
 go_wp2_with (at_builtin; go_must (refine wpl_str _ rfl (.tmp 8) (.tmp 9) 27 9 rfl 5 i0 Tryz.underlying27 Tryz.underlying9 hi hz0 hz1 hz2 w.heap.size _ _ rfl ho1 s rfl c1 hsz ?_); intro v2 w2 ho2 hb2)
 go_ret
 rw [List.append_assoc] at ho2
 exact ⟨_, rfl, ho2, hb1.trans hb2⟩
set_option maxRecDepth 1000000 in
set_option maxHeartbeats 1000000 in
theorem texts_any (w : World) (lo : Nat) (v : Value) (xs : List Int) (vt : Value) (l : List ByteArray) (h : Own w lo w.heap.size 5 v (bs xs)) (hlo : lo ≤ w.heap.size) (ht : Sl w vt (ss l)) (hkeep : ∀ w', Below lo w w' → 1 < l.length → Sl w' vt (ss l))
  (hx : xs.length + (txs l).length ≤ 35184372088832) (hl : l.length ≤ 35184372088832) :
  Calls Tryz.prog 149 #[v, vt] w fun e w' => ∃ v', e = .returned v' ∧ Own w' lo w'.heap.size 5 v' (bs (xs ++ txs l)) ∧ Below lo w w' := by
 obtain ⟨i0, hi, hz0, hz1, hz2⟩ := info_parts info5
 obtain ⟨ao, cap, rfl, hc, hn, hr⟩ := ht
 rw [ss_len] at hr hc hkeep
 rw [ss_len]
 go_enter Tryz.func149, Tryz.ntmps149
 go_wp2
 go_loopw [0, 9] (fun b i wr => ∃ (k : Nat) (ys : List Int), k ≤ l.length ∧ i = .int .i64 k ∧ ys ++ txs (l.drop k) = xs ++ txs l ∧ Own wr lo wr.heap.size 5 b (bs ys) ∧ Below lo w wr ∧ (k = 0 → wr = w)) (fun _ i _ => l.length - (intOf i).toNat)
 case atStart => exact ⟨0, xs, Nat.zero_le _, rfl, rfl, h, Below.refl _ _, fun _ => rfl⟩
 case round =>
  obtain ⟨k, ys, hk, rfl, hE0, ho, hb, hfirst⟩ := hrel
  have HE : Hid (ys ++ txs (l.drop k) = xs ++ txs l) := hE0
  have hsz := hb.size
  by_cases hlt : k < l.length
  ·
   obtain ⟨s, hs0⟩ : ∃ s, l[k]? = some s := ⟨l[k], by simp⟩
   have HD : Hid (l.drop k = s :: l.drop (k + 1)) := by
    obtain ⟨hk', rfl⟩ := List.getElem?_eq_some_iff.1 hs0
    exact List.drop_eq_getElem_cons hk'
   have hlen : ys.length + (tx s).length ≤ 35184372088832 := by
    have h1 := congrArg List.length HE.out
    rw [HD.out] at h1
    simp only [txs, List.length_append] at h1
    omega
   have htl : s.size ≤ (tx s).length := by unfold tx; rw [List.length_append, sb_len]; omega
   have hnl := num_len (s.size : Int)
   have hcl : ∃ b off, ao = some ⟨b, off, none⟩ ∧ wr.cell? ⟨b, off + k, none⟩ = some (.string s) := by
    have key : ∀ w0 : World, (0 < l.length → ∃ b off, ao = some ⟨b, off, none⟩ ∧ ∀ j, j < l.length → w0.cell? ⟨b, off + j, none⟩ = (ss l)[j]?) → ∃ b off, ao = some ⟨b, off, none⟩ ∧ w0.cell? ⟨b, off + k, none⟩ = some (.string s) := by
     intro w0 hq
     obtain ⟨b, off, he, hc⟩ := hq (by omega)
     exact ⟨b, off, he, by rw [hc k hlt]; simp [ss, hs0]⟩
    by_cases h0 : k = 0
    ·
     rw [hfirst h0]; exact key w hr
    ·
     obtain ⟨ao', cap', he, _, _, hr'⟩ := hkeep wr hb (by omega)
     rw [ss_len] at he hr'
     simp only [Value.slice.injEq] at he
     obtain ⟨rfl, _, rfl⟩ := he
     exact key wr hr'
   obtain ⟨b, off, rfl, hcell⟩ := hcl
   have HN : Hid ((ys ++ tx s) ++ txs (l.drop (k + 1)) = xs ++ txs l) := by
    show _ = _; rw [← HE.out, HD.out, List.append_assoc]; rfl
   clear hs0 HD hE0 HE hr hkeep hfirst h
   have hss : (s.size : Int) ≤ 35184372088832 := by omega
   go_wp2_with fail
   refine (nums_one _ lo _ ys wr.heap.size (s.size : Int) (ho.alloc _) (by simp; omega) (by omega) (new_cell _ _ _)).mono ?_
   rintro e w1 ⟨v1, rfl, ho1, hb1⟩
   have hb1' : Below lo w w1 := (hb.alloc (by omega) _).trans hb1
   have hsz1 : lo ≤ w1.heap.size := by have := hb1'.size; omega
   have c1 : (ys ++ num (s.size : Int)).length + s.size ≤ 140737488355328 := by rw [List.length_append]; omega
   go_wp2_with (at_builtin; go_must (refine wpl_str _ rfl (.tmp 17) (.tmp 18) 27 9 rfl 5 i0 Tryz.underlying27 Tryz.underlying9 hi hz0 hz1 hz2 lo _ _ rfl ho1 s rfl c1 hsz1 ?_); intro v2 w2 ho2 hb2)
   rw [List.append_assoc] at ho2
   have hb3 : Below lo w w2 := hb1'.trans hb2
   go_roundw
   case rel => exact ⟨k + 1, ys ++ tx s, by omega, by go_num, HN.out, ho2, hb3, fun h => by omega⟩
   case measure => simp [intOf]; omega
  ·
   go_wp2
   go_ret
   have h1 := HE.out
   rw [List.drop_eq_nil_of_le (by omega)] at h1
   simp only [txs, List.append_nil] at h1
   rw [h1] at ho
   exact ⟨_, rfl, ho, hb⟩
theorem Sl.oneStr (w : World) (s : ByteArray) (t : TypeId) : Sl (w.alloc (.cells #[.string s] t)) (.slice (some ⟨w.heap.size, 0, none⟩) 1 1) (ss [s]) := Sl.one w (.string s) t
theorem drop_str {l : List ByteArray} {k : Nat} {s : ByteArray} (h : l[k]? = some s) : l.drop k = s :: l.drop (k + 1) := by
 obtain ⟨hk, rfl⟩ := List.getElem?_eq_some_iff.1 h
 exact List.drop_eq_getElem_cons hk
set_option maxRecDepth 1000000 in
set_option maxHeartbeats 1000000 in
theorem putts_spec (w : World) (v vt : Value) (xs : List Int) (l : List ByteArray) (h : Sl w v (bs xs)) (ht : Sl w vt (ss l)) (hx : xs.length + (txs l).length + 5 ≤ 10000000000000) (hl : l.length ≤ 10000000000000) :
  Calls Tryz.prog 128 #[v, vt] w fun e w' => ∃ v', e = .returned v' ∧ Own w' w.heap.size w'.heap.size 5 v' (bs (xs ++ num (l.length : Int) ++ txs l)) ∧ Below w.heap.size w w' := by
 have hlater : ∀ w', Below w.heap.size w w' → Sl w' vt (ss l) := fun w' hb => ht.later hb
 obtain ⟨ao, cap, rfl, hc, hn, hr⟩ := ht
 rw [ss_len] at hr hc hlater
 rw [ss_len]
 have hnl := num_len (l.length : Int)
 obtain ⟨R, hR⟩ : ∃ R, R = xs ++ num (l.length : Int) ++ txs l := ⟨_, rfl⟩
 have HR : Hid (xs ++ num (l.length : Int) ++ txs l = R) := hR.symm
 have hRl : R.length ≤ 10000000000000 := by rw [hR]; simp only [List.length_append]; omega
 clear hR hr hn
 go_enter Tryz.func128, Tryz.ntmps128
 go_wp2_with fail
 refine (put_spec w v xs _ h (by omega)).mono ?_
 rintro e w1 ⟨v1, rfl, ho1, hb1⟩
 go_wp2_with fail
 go_loopw [5, 6] (fun b i wr => ∃ (k : Nat) (ys : List Int), k ≤ l.length ∧ i = .int .i64 k ∧ ys ++ txs (l.drop k) = R ∧ Own wr w.heap.size wr.heap.size 5 b (bs ys) ∧ Below w.heap.size w wr) (fun _ i _ => l.length - (intOf i).toNat)
 case atStart => exact ⟨0, _, Nat.zero_le _, rfl, HR.out, ho1, hb1⟩
 case round =>
  obtain ⟨k, ys, hk, rfl, hE0, ho, hb⟩ := hrel
  have HE : Hid (ys ++ txs (l.drop k) = R) := hE0
  have hsz := hb.size
  clear hE0 ho1 hb1
  by_cases hlt : k < l.length
  ·
   obtain ⟨ao', cap', he, _, _, hr'⟩ := hlater wr hb
   rw [ss_len] at he hr'
   simp only [Value.slice.injEq] at he
   obtain ⟨rfl, _, rfl⟩ := he
   obtain ⟨b, off, s, rfl, hx0, hcell⟩ := Sl.strAt hr' rfl hlt
   have HN : Hid ((ys ++ tx s) ++ txs (l.drop (k + 1)) = R) := by
    show _ = _; rw [← HE.out, drop_str hx0, List.append_assoc]; rfl
   have hlen : ys.length + (tx s).length ≤ 10000000000000 := by
    have h1 := congrArg List.length HN.out
    simp only [List.length_append] at h1
    omega
   have htl : s.size ≤ (tx s).length := by unfold tx; rw [List.length_append, sb_len]; omega
   clear hx0 hr' hlater HR HE
   go_wp2_with fail
   refine (putt_spec wr _ ys s ho.sl (by omega) (by omega)).mono ?_
   rintro e w2 ⟨v2, rfl, ho2, hb2⟩
   have ho3 := ho2.mono hsz (Nat.le_refl _)
   have hb3 : Below w.heap.size w w2 := hb.trans (hb2.mono hsz)
   go_wp2
   go_roundw
   case rel => exact ⟨k + 1, ys ++ tx s, by omega, by go_num, HN.out, ho3, hb3⟩
   case measure => simp [intOf]; omega
  ·
   go_wp2
   go_ret
   have h1 := HE.out
   rw [List.drop_eq_nil_of_le (by omega)] at h1
   simp only [txs, List.append_nil] at h1
   rw [HR.out, ← h1]
   exact ⟨_, rfl, ho, hb⟩
set_option maxRecDepth 1000000 in
set_option maxHeartbeats 1000000 in
theorem putts_impl (w : World) (v vt : Value) (xs : List Int) (l : List ByteArray) (h : Sl w v (bs xs)) (ht : Sl w vt (ss l)) (hx : xs.length + (txs l).length + 5 ≤ 10000000000000) (hl : l.length ≤ 10000000000000) :
  Calls Tryz.prog 148 #[v, vt] w fun e w' => ∃ v', e = .returned v' ∧ Own w' w.heap.size w'.heap.size 5 v' (bs (xs ++ num (l.length : Int) ++ txs l)) ∧ Below w.heap.size w w' := by
 have hlater : ∀ w', Below w.heap.size w w' → Sl w' vt (ss l) := fun w' hb => ht.later hb
 obtain ⟨ao, cap, rfl, hc, hn, hr⟩ := ht
 rw [ss_len] at hr hc hlater
 rw [ss_len]
 have hnl := num_len (l.length : Int)
 go_enter Tryz.func148, Tryz.ntmps148
 go_wp2_with fail
 refine (own_any w v xs h (by omega)).mono ?_
 rintro e w1 ⟨v1, rfl, ho1, hb1⟩
 have hsz := hb1.size
 go_wp2_with fail
 refine (nums_one _ w.heap.size v1 xs w1.heap.size (l.length : Int) (ho1.alloc _) (by simp; omega) (by omega) (new_cell _ _ _)).mono ?_
 rintro e w2 ⟨v2, rfl, ho2, hb2⟩
 have hb3 : Below w.heap.size w w2 := (hb1.alloc (by omega) _).trans hb2
 have hsz2 := hb3.size
 go_wp2_with fail
 refine (texts_any w2 w.heap.size v2 _ _ l ho2 hsz2 (hlater _ hb3) (fun w' hb _ => hlater w' (hb3.trans hb)) (by rw [List.length_append]; omega) (by omega)).mono ?_
 rintro e w4 ⟨v4, rfl, ho4, hb4⟩
 go_wp2
 go_ret
 exact ⟨_, rfl, ho4, hb3.trans hb4⟩
end Go.Proofs.YtchonoonclllbabGreatDoor.Puts
